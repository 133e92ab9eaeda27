package sampler_test

import (
	"math"
	"math/rand"
	"slices"
	"strings"
	"testing"

	"signalbench/api"
	"signalbench/decodertest"
	"signalbench/feed"
	"signalbench/sampler"
	"signalbench/wave"
)

// of returns items with these data.
func of(data ...string) []api.Item {
	var l []api.Item
	for _, d := range data {
		l = append(l, api.Item{Data: d})
	}
	return l
}

// divided returns items with all bits of s, as many in each as possible.
func divided(s string) []api.Item {
	var l []api.Item
	for begin := 0; begin < len(s); begin += api.MaxData {
		l = append(l, api.Item{Data: s[begin:min(begin+api.MaxData, len(s))]})
	}
	return l
}

// runsOf returns the runs of bits, from the definition.
func runsOf(c api.Clock, s string) []api.Run {
	var l []api.Run
	for n := range s {
		level, ticks := int(s[n]-'0'), times(c, n+1, 1)-times(c, n, 1)
		if n > 0 && s[n] == s[n-1] {
			l[len(l)-1].Ticks += ticks
		} else {
			l = append(l, api.Run{Level: level, Ticks: ticks})
		}
	}
	return l
}

// encodes reports an error unless Encode returns the runs of these bits, and Expect their events.
func encodes(t *testing.T, c api.Clock, l []api.Item, s string) {
	t.Helper()
	want := runsOf(c, s)
	runs, e := sampler.Encode(c, l)
	if !slices.Equal(runs, want) || e != api.OK {
		t.Errorf("%v %s: %s, error %d, not %s", c.T, brief(l), brief(runs), e, brief(want))
	}
	expects(t, c, l, want, s)
}

// expects reports an error unless Expect returns what Decode does for these runs, which is a bit without a fault for each bit of s.
func expects(t *testing.T, c api.Clock, l []api.Item, runs []api.Run, s string) {
	t.Helper()
	events, _ := feed.Levels(api.Capture{Names: []string{"a"}, Runs: runs}, []string{"a"})
	got, e := sampler.Expect(c, l)
	if !slices.Equal(got, sampler.Decode(c, events)) || e != api.OK {
		t.Errorf("%v %s: expected %s, error %d", c.T, brief(l), brief(got), e)
	}
	var read strings.Builder
	for _, b := range got {
		read.WriteByte('0' + byte(b.Value))
		if b != bit(b.Value, b.From, b.To, api.FtNone) {
			t.Errorf("%v %s: %v", c.T, brief(l), b)
		}
	}
	if read.String() != s {
		t.Errorf("%v %s: %d bits, not %d", c.T, brief(l), read.Len(), len(s))
	}
}

// refuses reports an error unless Encode and Expect return nothing but this error.
func refuses(t *testing.T, c api.Clock, l []api.Item, want api.Errno) {
	t.Helper()
	if runs, e := sampler.Encode(c, l); len(runs) > 0 || e != want {
		t.Errorf("%v %d items: %s, error %d, not %d", c.T, len(l), brief(runs), e, want)
	}
	if bits, e := sampler.Expect(c, l); len(bits) > 0 || e != want {
		t.Errorf("%v %d items: expected %s, error %d, not %d", c.T, len(l), brief(bits), e, want)
	}
}

// P15.3
func TestEncode(t *testing.T) {
	runs, e := sampler.Encode(clock(9, 2), of("110"))
	if !slices.Equal(runs, []api.Run{{Level: 1, Ticks: 9}, {Level: 0, Ticks: 4}}) || e != api.OK {
		t.Error(runs, e)
	}
	// The items follow one another without idle time, and equal levels of two items are joined.
	runs, e = sampler.Encode(clock(9, 2), of("1", "", "100", "0", "1"))
	if !slices.Equal(runs, []api.Run{{Level: 1, Ticks: 9}, {Level: 0, Ticks: 13}, {Level: 1, Ticks: 5}}) || e != api.OK {
		t.Error(runs, e)
	}
	for _, c := range clocks() {
		for _, l := range [][]api.Item{nil, {}, of(""), of("", "", ""), make([]api.Item, api.MaxItems)} {
			encodes(t, c, l, "")
		}
	}
}

// P15.3, P15.4: all sequences of up to 9 bits, in one item and in two.
func TestEncodeShortSequences(t *testing.T) {
	for _, c := range clocks() {
		for n := range 10 {
			for number := range 1 << n {
				s := decodertest.Sequence(number, n)
				encodes(t, c, of(s), s)
				encodes(t, c, of(s[:n/3], s[n/3:]), s)
			}
		}
	}
}

// P15.3, P15.4
func TestEncodeRandomItems(t *testing.T) {
	r := rand.New(rand.NewSource(153))
	for _, c := range clocks() {
		for range 20 {
			var data []string
			for range r.Intn(10) {
				data = append(data, decodertest.Sequence(r.Int(), r.Intn(64)), strings.Repeat(decodertest.Sequence(r.Int(), 1), r.Intn(300)))
			}
			encodes(t, c, of(data...), strings.Join(data, ""))
		}
	}
}

// P15.3: the errors of an item in their order.
func TestErrorsOfItems(t *testing.T) {
	c := clock(9, 2)
	long := strings.Repeat("10", api.MaxData/2)
	data := map[string]api.Errno{
		"": api.OK, "0": api.OK, "1": api.OK, "0110": api.OK, long: api.OK,
		long + "1": api.ErrLimit, long + "2": api.ErrLimit, strings.Repeat("x", api.MaxBits+1): api.ErrLimit, "2" + long: api.ErrLimit,
		"2": api.ErrSyntax, " ": api.ErrSyntax, "01 ": api.ErrSyntax, "\x00": api.ErrSyntax, "0\x01": api.ErrSyntax, "/": api.ErrSyntax, "10x01": api.ErrSyntax, "\xff": api.ErrSyntax, "١": api.ErrSyntax, long[1:] + "2": api.ErrSyntax,
	}
	numbers := []int{0, math.MinInt, -1, 1, api.MaxGap, api.MaxGap + 1, math.MaxInt}
	for d, wrong := range data {
		for i, n := range numbers {
			for _, item := range []api.Item{{Data: d, Gap: n}, {Data: d, Value: n}, {Data: d, Aux: n}, {Data: d, Fault: n}, {Data: d, Gap: n, Value: 1, Aux: 1, Fault: 1}} {
				want := wrong
				if item.Gap != 0 {
					want = api.ErrArg
				} else if want == api.OK && (i > 0 || item.Value != 0) {
					want = api.ErrArg
				}
				if want != api.OK {
					refuses(t, c, []api.Item{item}, want)
					refuses(t, c, append(of("1", "0"), item, api.Item{Data: "x"}, api.Item{Gap: 1}), want)
				} else {
					encodes(t, c, []api.Item{item}, d)
				}
			}
		}
	}
	for fault := api.FtFraming; fault <= api.FtUnknown; fault++ {
		refuses(t, c, []api.Item{{Data: "1", Fault: fault}}, api.ErrArg)
	}
	// The first item that cannot be encoded decides.
	refuses(t, c, append(of("1", "x"), api.Item{Gap: 1}, api.Item{Data: long + "1"}), api.ErrSyntax)
	refuses(t, c, append(of("1"), api.Item{Data: long + "1"}, api.Item{Data: "x"}, api.Item{Gap: 1}), api.ErrLimit)
	refuses(t, c, append(of("1"), api.Item{Data: "1", Aux: 1}, api.Item{Data: "x"}), api.ErrArg)
}

// P15.3, D9: the number of items comes before their errors.
func TestManyItems(t *testing.T) {
	c := clock(4, 1)
	one := slices.Repeat(of("1"), api.MaxItems)
	encodes(t, c, one, strings.Repeat("1", api.MaxItems))
	refuses(t, c, append(slices.Clone(one), api.Item{}), api.ErrLimit)
	refuses(t, c, append(slices.Clone(one), api.Item{Gap: 1}), api.ErrLimit)
	refuses(t, c, append(of("x"), one...), api.ErrLimit)
	refuses(t, c, append([]api.Item{{Gap: 1}}, one...), api.ErrLimit)
	refuses(t, c, append(slices.Clone(one[1:]), api.Item{Data: "x"}), api.ErrSyntax)
	refuses(t, c, append(slices.Clone(one[1:]), api.Item{Gap: 1}), api.ErrArg)
	refuses(t, c, make([]api.Item, 1<<20), api.ErrLimit)
	// The bits of all items together are no sequence of bits if they are more than MaxBits.
	s := strings.Repeat("0", api.MaxBits-1) + "11111"
	encodes(t, c, divided(s), s)
}

// P15.3, D9: the greatest numbers of runs and of ticks, after all errors of items.
func TestEncodeAtTheLimits(t *testing.T) {
	full := strings.Repeat("10", api.MaxRuns/2)
	for _, c := range []api.Clock{clock(9, 2), clock(1<<20, 1)} {
		encodes(t, c, divided(full), full)
		encodes(t, c, divided(full+"000"), full+"000")
		refuses(t, c, divided(full+"1"), api.ErrLimit)
		refuses(t, c, divided("0"+full), api.ErrLimit)
		refuses(t, c, append(divided(full+"1"), api.Item{Data: "x"}), api.ErrSyntax)
		refuses(t, c, append(divided(full+"1"), api.Item{Aux: 1}), api.ErrArg)
	}
	refuses(t, clock(4, 1), slices.Repeat(of(full[:api.MaxData]), api.MaxItems), api.ErrLimit)
	// Runs come before ticks.
	slow := clock(1<<20, 1)
	refuses(t, slow, divided(full+strings.Repeat("1", 1<<20)), api.ErrLimit)
	refuses(t, slow, divided(full+strings.Repeat("0", 1<<20)), api.ErrRange)
	s := strings.Repeat(strings.Repeat("0", 4)+strings.Repeat("1", 4), 1<<17)
	encodes(t, slow, divided(s), s)
	if runs, _ := sampler.Encode(slow, divided(s)); wave.Long(runs) != end {
		t.Error(wave.Long(runs))
	}
	refuses(t, slow, divided(s+"1"), api.ErrRange)
	refuses(t, slow, append(divided(s), api.Item{Data: "11"}), api.ErrRange)
	refuses(t, slow, append(divided(s+"1"), api.Item{Data: "x"}), api.ErrSyntax)
	refuses(t, slow, append(divided(s+"1"), api.Item{Fault: 1}), api.ErrArg)
	refuses(t, slow, slices.Repeat(of(strings.Repeat("1", api.MaxData)), api.MaxItems), api.ErrRange)
	// With a little less than 2^20 ticks a bit, 2^20 + 1 bits may be too long or not.
	refuses(t, clock(1<<30-1, 1<<10), divided(s+"1"), api.ErrRange)
	encodes(t, clock(1<<20-1, 1), divided(s+"1"), s+"1")
	// These 2^20 + 32 bits take 2^40 + 1/32 ticks, the fraction of which does not count.
	s += strings.Repeat("1", 32)
	encodes(t, clock(1073709057, 1<<10), divided(s), s)
	refuses(t, clock(1073709057, 1<<10), divided(s+"1"), api.ErrRange)
}

// P15.3: the greatest number of bits.
func TestEncodeAllBits(t *testing.T) {
	part := strings.Repeat("1", api.MaxData/2) + strings.Repeat("0", api.MaxData/2)
	runs, e := sampler.Encode(clock(9, 2), slices.Repeat(of(part), api.MaxItems))
	want := slices.Repeat([]api.Run{{Level: 1, Ticks: 9 << 10}, {Level: 0, Ticks: 9 << 10}}, api.MaxItems)
	if !slices.Equal(runs, want) || e != api.OK {
		t.Errorf("%s, error %d", brief(runs), e)
	}
}
