package codegroup_test

import (
	"math/rand"
	"slices"
	"strings"
	"testing"

	"signalbench/api"
	"signalbench/codegroup"
	"signalbench/decodertest"
)

// most is the greatest number of bytes of an item.
const most = 407

// coded returns what items are encoded as, from the definitions.
func coded(c api.Group, l []api.Item) []api.Item {
	var all []api.Item
	for _, item := range l {
		all = append(all, api.Item{Gap: item.Gap, Data: j + k + sent(c, item.Data) + t + r})
	}
	return all
}

// encodes reports an error unless Encode returns these items.
func encodes(x *testing.T, c api.Group, l, want []api.Item) {
	x.Helper()
	if got, e := codegroup.Encode(c, l); !slices.Equal(got, want) || e != api.OK {
		x.Errorf("%v %s: %s, error %d, not %s", c, brief(l), brief(got), e, brief(want))
	}
}

// refuses reports an error unless Encode returns nothing but this error.
func refuses(x *testing.T, c api.Group, l []api.Item, want api.Errno) {
	x.Helper()
	if got, e := codegroup.Encode(c, l); len(got) > 0 || e != want {
		x.Errorf("%v %s: %s, error %d, not %d", c, brief(l), brief(got), e, want)
	}
}

// P18.4
func TestEncode(x *testing.T) {
	for data, want := range map[string][2]string{
		"":                 {"11000 10001 01101 00111", "11000 10001 01101 00111"},
		"\x1e":             {"11000 10001 01001 11100 01101 00111", "11000 10001 11100 01001 01101 00111"},
		"\x01\x23":         {"11000 10001 11110 01001 10100 10101 01101 00111", "11000 10001 01001 11110 10101 10100 01101 00111"},
		"\x45\x67":         {"11000 10001 01010 01011 01110 01111 01101 00111", "11000 10001 01011 01010 01111 01110 01101 00111"},
		"\x89\xab":         {"11000 10001 10010 10011 10110 10111 01101 00111", "11000 10001 10011 10010 10111 10110 01101 00111"},
		"\xcd\xef":         {"11000 10001 11010 11011 11100 11101 01101 00111", "11000 10001 11011 11010 11101 11100 01101 00111"},
		"\x00\xff\x80\x08": {"11000 10001 11110 11110 11101 11101 10010 11110 11110 10010 01101 00111", "11000 10001 11110 11110 11101 11101 11110 10010 10010 11110 01101 00111"},
	} {
		for i, c := range both {
			encodes(x, c, []api.Item{{Gap: 3, Data: data}}, []api.Item{{Gap: 3, Data: joined(want[i])}})
		}
	}
}

// P18.4: every byte, and items with each number of bytes.
func TestEncodeBytes(x *testing.T) {
	all := strings.Repeat(decodertest.EveryByte(), 2)
	for _, c := range both {
		for b := range 256 {
			l := items(all[b:b+1], all[b:b+2])
			encodes(x, c, l, coded(c, l))
		}
		for n := range most + 1 {
			l := items(all[n/8:n/8+n], "", all[:n])
			encodes(x, c, l, coded(c, l))
		}
	}
}

// P18.4, D9: as many items, bytes and ticks as possible, and no items.
func TestEncodeAtTheLimits(x *testing.T) {
	for _, c := range both {
		full := make([]api.Item, api.MaxItems)
		encodes(x, c, nil, nil)
		encodes(x, c, []api.Item{}, nil)
		encodes(x, c, full, coded(c, full))
		for i := range full {
			full[i] = api.Item{Gap: api.MaxGap, Data: strings.Repeat("\xa5", most)}
		}
		encodes(x, c, full, coded(c, full))
	}
}

// wrongItems returns items that cannot be encoded, and their errors.
func wrongItems() map[api.Item]api.Errno {
	all := map[api.Item]api.Errno{}
	for _, n := range []int{most + 1, most + 2, 409, 4076, api.MaxData, api.MaxData + 1, api.MaxBits + 1} {
		long := api.Item{Data: strings.Repeat("a", n)}
		all[long] = api.ErrLimit
		for _, item := range decodertest.OtherFields(long) {
			all[item] = api.ErrLimit
		}
		for _, item := range decodertest.OtherGaps(long, api.MaxGap) {
			all[item] = api.ErrArg
		}
	}
	for _, data := range []string{"", "a", strings.Repeat("a", most)} {
		for _, item := range slices.Concat(decodertest.OtherFields(api.Item{Data: data}), decodertest.OtherGaps(api.Item{Data: data}, api.MaxGap)) {
			all[item] = api.ErrArg
		}
	}
	return all
}

// P18.4: the errors of an item in their order, wherever it stands.
func TestErrorsOfItems(x *testing.T) {
	for _, c := range both {
		for item, want := range wrongItems() {
			refuses(x, c, []api.Item{item}, want)
			refuses(x, c, []api.Item{{Data: "a"}, {}, item, {Gap: -1}}, want)
			refuses(x, c, []api.Item{{Data: "a"}, {}, item, {Data: strings.Repeat("a", most+1)}}, want)
		}
	}
}

// D9: the error of too many items comes before those of the items.
func TestTooManyItems(x *testing.T) {
	for _, c := range both {
		many := make([]api.Item, api.MaxItems+1)
		refuses(x, c, many, api.ErrLimit)
		for _, i := range []int{0, api.MaxItems - 1} {
			many := slices.Clone(many)
			many[i].Gap = -1
			refuses(x, c, many, api.ErrLimit)
			refuses(x, c, many[:api.MaxItems], api.ErrArg)
		}
	}
}

// returned reports an error unless the encoded items are decoded to a byte for each byte of the items.
func returned(x *testing.T, c api.Group, l []api.Item, number func(int) int) {
	x.Helper()
	encoded, e := codegroup.Encode(c, l)
	if e != api.OK {
		x.Fatalf("%v %s: error %d", c, brief(l), e)
	}
	events := decodertest.RandomTimes(decodertest.Joined(encoded), number)
	var want []api.Event
	begin := 0
	for i, item := range l {
		for n := range len(item.Data) {
			first := begin + 10 + 10*n
			want = append(want, found(int(item.Data[n]), events[first].From, events[first+9].To))
		}
		begin += len(encoded[i].Data)
	}
	decodes(x, c, events, want, nil)
}

// P18.5: the bits of encoded items, at any times, are decoded to the bytes of the items.
func TestRoundTrip(x *testing.T) {
	r := rand.New(rand.NewSource(185))
	for _, c := range both {
		for b := range 256 {
			returned(x, c, items(string([]byte{byte(b)})), r.Intn)
		}
		for range 300 {
			var data []string
			for range r.Intn(8) {
				b := make([]byte, r.Intn(12))
				r.Read(b)
				data = append(data, string(b))
			}
			returned(x, c, items(data...), r.Intn)
		}
		long := strings.Repeat(decodertest.EveryByte(), 2)
		returned(x, c, items(long[:most], "", "", long[most:], long[100:100+most]), r.Intn)
	}
}
