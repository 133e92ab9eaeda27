package manchester_test

import (
	"math"
	"math/rand"
	"slices"
	"strings"
	"testing"

	"signalbench/api"
	"signalbench/decodertest"
	"signalbench/feed"
	"signalbench/manchester"
	"signalbench/wave"
)

// faulty returns an item of which one bit has no edge in its middle.
func faulty(data string, at int) api.Item {
	return api.Item{Data: data, Aux: at, Fault: api.FtCode}
}

// drawing is a signal whose changes are drawn from the left to the right.
type drawing struct {
	edges []int
	last  int
}

// draw makes the signal have a level from a tick on.
func (d *drawing) draw(level, at int) {
	if level != d.last {
		d.edges, d.last = append(d.edges, at), level
	}
}

// encoded returns the runs of items, from the definitions.
func encoded(c api.Manchester, l []api.Item) []api.Run {
	var d drawing
	at := times(c, 2, 1)
	for _, item := range l {
		at += item.Gap
		bits := "1" + item.Data
		for k := range bits {
			if item.Fault == api.FtCode && k == item.Aux+1 {
				d.draw(1, at+times(c, k, 1))
				bits = bits[:k+1]
				break
			}
			value := int(bits[k] - '0')
			d.draw(1-value, at+times(c, k, 1))
			d.draw(value, at+times(c, 2*k+1, 2))
		}
		at += times(c, len(bits), 1)
		d.draw(0, at)
		at += times(c, 2, 1)
	}
	first := 0
	if !c.Ieee {
		first = 1
	}
	runs, _ := wave.FromEdges(first, d.edges, at)
	return runs
}

// eventsOf returns the events of runs of the channel.
func eventsOf(runs []api.Run) []api.Event {
	l, _ := feed.Levels(api.Capture{Names: []string{"a"}, Runs: runs}, []string{"a"})
	return l
}

// sent returns the values and the faults of the bits that are sent, as text; x is a bit without an edge in its middle.
func sent(l []api.Item) string {
	var s strings.Builder
	for _, item := range l {
		if item.Fault == api.FtCode {
			s.WriteString(item.Data[:item.Aux] + "x")
		} else {
			s.WriteString(item.Data)
		}
	}
	return s.String()
}

// text returns the values and the faults of bits.
func text(l []api.Event) string {
	var s strings.Builder
	for _, b := range l {
		if b == broken(b.From, b.To) {
			s.WriteByte('x')
		} else if b == bit(b.Value, b.From, b.To) {
			s.WriteByte('0' + byte(b.Value))
		} else {
			s.WriteByte('?')
		}
	}
	return s.String()
}

// encodes reports an error unless Encode returns the runs of these items, and Expect their events.
func encodes(t *testing.T, c api.Manchester, l []api.Item) {
	t.Helper()
	want := encoded(c, l)
	runs, e := manchester.Encode(c, l)
	if !slices.Equal(runs, want) || e != api.OK {
		t.Errorf("%v %s: %s, error %d, not %s", c, brief(l), brief(runs), e, brief(want))
	}
	bits, e := manchester.Expect(c, l)
	if !slices.Equal(bits, model(c, eventsOf(want))) || e != api.OK {
		t.Errorf("%v %s: expected %s, error %d", c, brief(l), brief(bits), e)
	}
	if text(bits) != sent(l) {
		t.Errorf("%v %s: expected %.200s, not %.200s", c, brief(l), text(bits), sent(l))
	}
}

// refuses reports an error unless Encode and Expect return nothing but this error.
func refuses(t *testing.T, c api.Manchester, l []api.Item, want api.Errno) {
	t.Helper()
	if runs, e := manchester.Encode(c, l); len(runs) > 0 || e != want {
		t.Errorf("%v %s: %s, error %d, not %d", c, brief(l), brief(runs), e, want)
	}
	if bits, e := manchester.Expect(c, l); len(bits) > 0 || e != want {
		t.Errorf("%v %s: expected %s, error %d, not %d", c, brief(l), brief(bits), e, want)
	}
}

// encodesAs reports an error unless Encode returns these numbers of ticks, the first one of the signal 0, in both codes.
func encodesAs(t *testing.T, num, den int, l []api.Item, ticks ...int) {
	t.Helper()
	var want []api.Run
	for i, n := range ticks {
		want = append(want, api.Run{Level: i % 2, Ticks: n})
	}
	runs, e := manchester.Encode(ieee(num, den), l)
	if !slices.Equal(runs, want) || e != api.OK {
		t.Errorf("%s: %v, error %d, not %v", brief(l), runs, e, want)
	}
	runs, e = manchester.Encode(thomas(num, den), l)
	if !slices.Equal(runs, wave.Invert(want)) || e != api.OK {
		t.Errorf("%s: %v, error %d, not %v inverted", brief(l), runs, e, want)
	}
}

// P17.3
func TestEncode(t *testing.T) {
	encodesAs(t, 8, 1, of("10"), 20, 4, 4, 8, 20)
	encodesAs(t, 8, 1, []api.Item{faulty("10", 1)}, 20, 4, 4, 12, 16)
	encodesAs(t, 8, 1, nil, 16)
	encodesAs(t, 8, 1, []api.Item{}, 16)
	// An item without bits is a start bit.
	encodesAs(t, 8, 1, of(""), 20, 4, 16)
	encodesAs(t, 8, 1, of("", ""), 20, 4, 21, 4, 16)
	encodesAs(t, 8, 1, []api.Item{{Gap: 5, Data: "0"}, {Gap: 3, Data: "1"}}, 25, 8, 4+16+3+4, 4, 4, 4, 16)
	// With T = 9/2 the boundaries are 0, 4, 9 and 13, and the samples 2, 6, 11 and 15.
	encodesAs(t, 9, 2, of("01"), 9+2, 2+2, 3+2, 2, 9)
	encodesAs(t, 9, 2, of("00"), 9+2, 2+2, 3, 2, 2+9)
	// A bit without an edge in its middle is the last one of its transmission. After a 0, its first half follows an edge.
	encodesAs(t, 9, 2, []api.Item{faulty("111", 0)}, 9+2, 2+5, 9)
	encodesAs(t, 9, 2, []api.Item{faulty("011", 1)}, 9+2, 2+2, 3, 4, 9)
	encodesAs(t, 9, 2, []api.Item{faulty("100", 1), faulty("1", 0)}, 9+2, 2, 2, 3+4, 9+2, 2+5, 9)
	encodesAs(t, 9, 2, []api.Item{faulty("1111", 3)}, 9+2, 2, 2, 3, 2, 2, 2, 3+4, 9)
}

// P17.3
func TestExpect(t *testing.T) {
	for _, c := range []api.Manchester{ieee(8, 1), thomas(8, 1)} {
		for _, x := range []struct {
			l    []api.Item
			want []api.Event
		}{
			{of("10"), []api.Event{bit(1, 24, 28), bit(0, 32, 36)}},
			{[]api.Item{faulty("10", 1)}, []api.Event{bit(1, 24, 28), broken(32, 40)}},
			{[]api.Item{faulty("01", 1), {Data: "1"}}, []api.Event{bit(0, 24, 28), broken(32, 40), bit(1, 64, 68)}},
			{[]api.Item{faulty("0", 0), {Gap: 2, Data: "0"}}, []api.Event{broken(24, 32), bit(0, 58, 62)}},
			{of(""), nil}, {nil, nil},
		} {
			if got, e := manchester.Expect(c, x.l); !slices.Equal(got, x.want) || e != api.OK {
				t.Errorf("%v %v: %v, error %d, not %v", c, x.l, got, e, x.want)
			}
		}
	}
}

// P17.3, P17.4: all sequences of up to 7 bits, in one item and in two, and with every bit without its edge.
func TestShortSequences(t *testing.T) {
	for _, c := range codes() {
		for n := range 8 {
			for number := range 1 << n {
				s := decodertest.Sequence(number, n)
				encodes(t, c, of(s))
				encodes(t, c, of(s[:n/3], s[n/3:]))
				for at := range n {
					encodes(t, c, []api.Item{faulty(s, at), {Data: s}})
				}
			}
		}
	}
}

// randomItems returns items that can be encoded.
func randomItems(r *rand.Rand) []api.Item {
	var l []api.Item
	for range r.Intn(12) {
		item := api.Item{Data: decodertest.Sequence(r.Int(), r.Intn(63))}
		if r.Intn(2) == 0 {
			item.Gap = r.Intn(1 << r.Intn(21))
		}
		if r.Intn(3) == 0 && item.Data != "" {
			item.Fault, item.Aux = api.FtCode, r.Intn(len(item.Data))
		}
		l = append(l, item)
	}
	return l
}

// P17.3, P17.4
func TestRandomItems(t *testing.T) {
	r := rand.New(rand.NewSource(174))
	for _, c := range codes() {
		for range 100 {
			encodes(t, c, randomItems(r))
		}
	}
}

// P17.5: the levels of encoded items in all kinds of divisions.
func TestDividedItems(t *testing.T) {
	r := rand.New(rand.NewSource(1))
	for _, c := range codes() {
		for range 10 {
			l := randomItems(r)
			runs, _ := manchester.Encode(c, l)
			var ticks []int
			for range 40 {
				ticks = append(ticks, r.Intn(wave.Long(runs)))
			}
			want, _ := manchester.Expect(c, l)
			decodes(t, c, feed.Split(eventsOf(runs), ticks), want)
		}
	}
}

// P17.6: whatever precedes encoded items, their events follow those that it determines together with the idle time.
func TestResynchronization(t *testing.T) {
	r := rand.New(rand.NewSource(176))
	for _, c := range codes() {
		for range 200 {
			before := random(r, c, r.Intn(1000), 1+r.Intn(20))
			last := before[len(before)-1].To
			items := []api.Item{{Data: decodertest.Sequence(r.Int(), r.Intn(20))}, {Data: "011"}, faulty("10", 1)}
			runs, _ := manchester.Encode(c, items)
			after := decodertest.Shifted(eventsOf(runs), last)
			expected, _ := manchester.Expect(c, items)
			want := slices.Concat(model(c, append(slices.Clone(before), after[0])), decodertest.Shifted(expected, last))
			decodes(t, c, slices.Concat(before, after), want)
		}
	}
}

// P17.3: the errors of an item in their order.
func TestErrorsOfItems(t *testing.T) {
	long := strings.Repeat("1", api.MaxData)
	data := map[string]api.Errno{
		"": api.OK, "0": api.OK, "1": api.OK, "0110": api.OK, long: api.OK,
		long + "1": api.ErrLimit, long + "2": api.ErrLimit, strings.Repeat("x", api.MaxBits+1): api.ErrLimit,
		"2": api.ErrSyntax, " ": api.ErrSyntax, "01 ": api.ErrSyntax, "\x00": api.ErrSyntax, "/": api.ErrSyntax, "10x01": api.ErrSyntax, "\xff": api.ErrSyntax, "١": api.ErrSyntax, long[1:] + "2": api.ErrSyntax,
	}
	numbers := []int{math.MinInt, -1, 0, 1, 3, 4, api.MaxData - 1, api.MaxData, math.MaxInt}
	for d, wrong := range data {
		for _, gap := range []int{math.MinInt, -1, 0, api.MaxGap, api.MaxGap + 1, math.MaxInt} {
			for _, fault := range []int{math.MinInt, -1, 0, 1, 4, api.FtCode, 6, api.FtUnknown, 13, math.MaxInt} {
				for _, aux := range numbers {
					for _, value := range []int{math.MinInt, -1, 0, 1, math.MaxInt} {
						item := api.Item{Gap: gap, Value: value, Aux: aux, Data: d, Fault: fault}
						want := wrong
						if gap < 0 || gap > api.MaxGap {
							want = api.ErrArg
						} else if want == api.OK {
							want = wrongFields(item)
						}
						if want != api.OK {
							refuses(t, ieee(9, 2), []api.Item{item}, want)
						} else {
							encodes(t, thomas(9, 2), []api.Item{item})
						}
					}
				}
			}
		}
	}
}

// wrongFields returns the error of an item whose gap and data are right.
func wrongFields(item api.Item) api.Errno {
	switch {
	case item.Fault != api.FtNone && item.Fault != api.FtCode:
		return api.ErrArg
	case item.Fault == api.FtCode && (item.Aux < 0 || item.Aux > len(item.Data)-1):
		return api.ErrConflict
	case item.Value != 0:
		return api.ErrArg
	case item.Fault == api.FtNone && item.Aux != 0:
		return api.ErrArg
	}
	return api.OK
}

// P17.3, D9: the error of the first wrong item, and that of too many items before it.
func TestOrderOfErrors(t *testing.T) {
	c := thomas(4, 1)
	wrong := map[api.Item]api.Errno{
		{Gap: -1}: api.ErrArg, {Data: strings.Repeat("1", api.MaxData+1)}: api.ErrLimit, {Data: "x"}: api.ErrSyntax, faulty("01", 2): api.ErrConflict, faulty("", 0): api.ErrConflict,
		{Data: "1", Fault: api.FtTiming}: api.ErrArg, {Data: "1", Value: 1}: api.ErrArg, {Data: "11", Aux: 1}: api.ErrArg,
	}
	full := make([]api.Item, api.MaxItems)
	encodes(t, c, full)
	for first, want := range wrong {
		for second := range wrong {
			refuses(t, c, []api.Item{{Data: "01"}, first, {}, second}, want)
		}
		many := slices.Clone(full)
		many[api.MaxItems-1] = first
		refuses(t, c, many, want)
		many[0] = first
		refuses(t, c, append(many, api.Item{}), api.ErrLimit)
		refuses(t, c, append(many, first), api.ErrLimit)
	}
	refuses(t, c, append(full, api.Item{}), api.ErrLimit)
}

// P17.3, D9: the greatest number of runs, after all errors of items.
func TestEncodeAtTheLimits(t *testing.T) {
	ones := strings.Repeat("1", api.MaxData)
	// Each 1 and each start bit is a pulse of the signal 1, between and around which it is 0: the number of runs is odd.
	const pulses = api.MaxRuns/2 - 1
	var full []api.Item
	for left := pulses; left > 0; left -= len(full[len(full)-1].Data) + 1 {
		full = append(full, api.Item{Data: ones[:min(left-1, api.MaxData)]})
	}
	more := func(item api.Item) []api.Item { return append(slices.Clone(full), item) }
	for _, c := range []api.Manchester{ieee(9, 2), thomas(1<<20, 1), thomas(4, 1)} {
		encodes(t, c, full)
		if runs, _ := manchester.Encode(c, full); len(runs) != api.MaxRuns-1 {
			t.Errorf("%v: %d runs", c, len(runs))
		}
		refuses(t, c, more(api.Item{}), api.ErrLimit)
		refuses(t, c, more(faulty("0", 0)), api.ErrLimit)
		refuses(t, c, more(api.Item{Data: ones}), api.ErrLimit)
		refuses(t, c, append(more(api.Item{}), api.Item{Data: "x"}), api.ErrSyntax)
		refuses(t, c, append(more(api.Item{}), faulty("", 0)), api.ErrConflict)
		refuses(t, c, append(more(api.Item{}), api.Item{Aux: 1}), api.ErrArg)
	}
	// Runs come before ticks, and no items have too many ticks alone: these take more than MaxTime, too.
	refuses(t, ieee(1<<20, 1), slices.Repeat([]api.Item{{Gap: api.MaxGap, Data: ones}}, api.MaxItems), api.ErrLimit)
	refuses(t, ieee(1<<20, 1), slices.Repeat([]api.Item{{Gap: api.MaxGap, Data: strings.Repeat("01", api.MaxData/2)}}, api.MaxItems), api.ErrLimit)
	encodes(t, ieee(1<<20, 1), slices.Repeat([]api.Item{{Gap: api.MaxGap, Data: strings.Repeat("01", 60)}}, api.MaxItems))
}
