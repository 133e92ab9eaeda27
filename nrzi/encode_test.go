package nrzi_test

import (
	"math/rand"
	"slices"
	"strings"
	"testing"

	"signalbench/api"
	"signalbench/decodertest"
	"signalbench/nrzi"
)

// encodes reports an error unless the items are encoded as items with the same gaps and as many bits, which are decoded as theirs.
func encodes(t *testing.T, c api.Nrzi, l []api.Item) {
	t.Helper()
	got, e := nrzi.Encode(c, l)
	if e != api.OK || len(got) != len(l) {
		t.Errorf("%v %s: %s, error %d", c, brief(l), brief(got), e)
		return
	}
	for i, item := range got {
		if len(item.Data) != len(l[i].Data) || item != (api.Item{Gap: l[i].Gap, Data: item.Data}) {
			t.Errorf("%v %s: item %d: %.300q", c, brief(l), i, item.Data)
		}
	}
	if s := model(c, decodertest.Joined(got)); s != decodertest.Joined(l) {
		t.Errorf("%v %s: %s, decoded as %.300s", c, brief(l), brief(got), s)
	}
}

// refuses reports an error unless Encode returns nothing but this error.
func refuses(t *testing.T, c api.Nrzi, l []api.Item, want api.Errno) {
	t.Helper()
	if got, e := nrzi.Encode(c, l); len(got) > 0 || e != want {
		t.Errorf("%v %s: %s, error %d, not %d", c, brief(l), brief(got), e, want)
	}
}

// P16.3
func TestEncode(t *testing.T) {
	all := map[string][2]string{
		"": {"", ""}, "0": {"1", "0"}, "1": {"0", "1"}, "101": {"001", "100"}, "000": {"111", "010"}, "111": {"010", "111"}, "0110": {"1011", "0001"},
	}
	for data, want := range all {
		for i, c := range both {
			l, e := nrzi.Encode(c, items(data))
			if !slices.Equal(l, items(want[i])) || e != api.OK {
				t.Errorf("%v %s: %v, error %d, not %s", c, data, l, e, want[i])
			}
		}
	}
}

// P16.3: the previous bit continues from item to item, also across one without bits, and every gap is kept.
func TestEncodeItems(t *testing.T) {
	l := []api.Item{{Gap: 3, Data: "1"}, {Gap: api.MaxGap}, {Data: "0"}, {Gap: 1, Data: "10"}, {Gap: 2, Data: "11"}}
	for c, data := range map[api.Nrzi][]string{one: {"0", "", "0", "11", "01"}, zero: {"1", "", "0", "01", "11"}} {
		want := slices.Clone(l)
		for i, s := range data {
			want[i].Data = s
		}
		got, e := nrzi.Encode(c, l)
		if !slices.Equal(got, want) || e != api.OK {
			t.Errorf("%v: %v, error %d, not %v", c, got, e, want)
		}
	}
}

// P16.3: all sequences of up to 12 bits, in one item and in three.
func TestEncodeShortSequences(t *testing.T) {
	for _, c := range both {
		for n := range 13 {
			for number := range 1 << n {
				s := decodertest.Sequence(number, n)
				encodes(t, c, items(s))
				encodes(t, c, items(s[:n/3], s[n/3:n/2], s[n/2:]))
			}
		}
	}
}

// P16.3, D9: as many items and as much data as possible, and no items.
func TestEncodeAtTheLimits(t *testing.T) {
	for _, c := range both {
		long := strings.Repeat("0110", api.MaxData/4)
		full := make([]api.Item, api.MaxItems)
		encodes(t, c, full)
		for i := range full {
			full[i] = api.Item{Gap: api.MaxGap, Data: long}
		}
		encodes(t, c, full)
		encodes(t, c, nil)
		encodes(t, c, []api.Item{})
	}
}

// wrongItems returns items that cannot be encoded, and their errors.
func wrongItems() map[api.Item]api.Errno {
	long := strings.Repeat("1", api.MaxData)
	all := map[api.Item]api.Errno{
		{Data: long + "0"}:                             api.ErrLimit,
		{Data: long + "x"}:                             api.ErrLimit,
		{Data: strings.Repeat("x", api.MaxBits+1)}:     api.ErrLimit,
		{Data: long[1:] + "x"}:                         api.ErrSyntax,
		{Data: long + "0", Fault: 1}:                   api.ErrLimit,
		{Data: long + "0", Value: 1, Aux: 1}:           api.ErrLimit,
		{Data: "x", Fault: 1}:                          api.ErrSyntax,
		{Data: "x", Value: 1, Aux: 1, Fault: 1}:        api.ErrSyntax,
		{Gap: -1, Data: long + "0"}:                    api.ErrArg,
		{Gap: -1, Data: "x", Fault: 1}:                 api.ErrArg,
		{Gap: api.MaxGap + 1, Data: "x"}:               api.ErrArg,
		{Gap: api.MaxGap + 1, Data: long + "0"}:        api.ErrArg,
		{Gap: api.MaxGap, Data: "x"}:                   api.ErrSyntax,
		{Gap: 1, Value: 1, Aux: 1, Data: "", Fault: 1}: api.ErrArg,
	}
	for _, s := range []string{"2", " ", "\x00", "\x01", "/", "0x1", "1 ", "\xff", "١", "-1"} {
		all[api.Item{Data: s}] = api.ErrSyntax
	}
	for _, item := range slices.Concat(decodertest.OtherGaps(api.Item{Data: "1"}, api.MaxGap), decodertest.OtherFields(api.Item{Data: "1"}), decodertest.OtherFields(api.Item{})) {
		all[item] = api.ErrArg
	}
	return all
}

// P16.3: the errors of an item in their order, wherever it stands.
func TestErrorsOfItems(t *testing.T) {
	for _, c := range both {
		for item, want := range wrongItems() {
			refuses(t, c, []api.Item{item}, want)
			refuses(t, c, []api.Item{{Data: "01"}, {}, item, {Gap: -1}, {Data: "x"}}, want)
		}
	}
}

// D9: the error of the first wrong item is returned, and that of too many items before it.
func TestOrderOfErrors(t *testing.T) {
	for _, c := range both {
		for first, want := range wrongItems() {
			for _, second := range []api.Item{{Data: "x"}, {Gap: -1}, {Data: strings.Repeat("1", api.MaxData+1)}} {
				refuses(t, c, []api.Item{first, second}, want)
			}
		}
		many := make([]api.Item, api.MaxItems+1)
		refuses(t, c, many, api.ErrLimit)
		many[0].Data = "x"
		refuses(t, c, many, api.ErrLimit)
		refuses(t, c, many[:api.MaxItems], api.ErrSyntax)
		many[0], many[api.MaxItems-1] = api.Item{}, api.Item{Gap: -1}
		refuses(t, c, many, api.ErrLimit)
		refuses(t, c, many[:api.MaxItems], api.ErrArg)
	}
}

// P16.4: encoded bits at any times are decoded as the bits of the items, with the times of the encoded ones.
func TestRoundTrip(t *testing.T) {
	r := rand.New(rand.NewSource(164))
	for range 500 {
		var data []string
		for range r.Intn(8) {
			data = append(data, decodertest.Sequence(r.Int(), r.Intn(62)), strings.Repeat("0", r.Intn(3)))
		}
		l := items(data...)
		for _, c := range both {
			encoded, e := nrzi.Encode(c, l)
			if e != api.OK {
				t.Fatalf("%v %s: error %d", c, brief(l), e)
			}
			sent := random(r, len(decodertest.Joined(l)))
			want := slices.Clone(sent)
			for i := range sent {
				sent[i].Value = int(decodertest.Joined(encoded)[i] - '0')
				want[i].Value, want[i].Data = int(decodertest.Joined(l)[i]-'0'), ""
			}
			decodes(t, c, sent, want)
		}
	}
}
