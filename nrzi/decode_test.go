package nrzi_test

import (
	"math/rand"
	"slices"
	"strings"
	"testing"

	"signalbench/api"
	"signalbench/decodertest"
	"signalbench/nrzi"
)

// P16.1
func TestCheck(t *testing.T) {
	for _, c := range both {
		if e := nrzi.Check(c); e != api.OK {
			t.Errorf("%v: error %d", c, e)
		}
	}
}

// P16.2
func TestDecode(t *testing.T) {
	decodes(t, one, bits("100", 0), bits("010", 0))
	decodes(t, zero, bits("100", 0), bits("101", 0))
	decodes(t, one, bits("0", 7), bits("1", 7))
	decodes(t, zero, bits("0", 7), bits("0", 7))
	decodes(t, one, bits("1", 7), bits("0", 7))
	decodes(t, zero, bits("1", 7), bits("1", 7))
	decodes(t, one, bits("0101100", 1), bits("1111010", 1))
	decodes(t, zero, bits("0101100", 1), bits("0000101", 1))
	for _, c := range both {
		decodes(t, c, nil, nil)
		decodes(t, c, []api.Event{}, nil)
	}
}

// P16.2: From, To, Aux and Fault are those of the accepted event, and Data is lost.
func TestFields(t *testing.T) {
	l := []api.Event{
		{Kind: api.EvBit, From: 3, To: 3, Value: 0, Aux: -1 << 53, Data: "1"},
		{Kind: api.EvBit, From: 3, To: end, Value: 0, Aux: 1 << 53, Data: "\x00"},
		{Kind: api.EvBit, From: 3, To: 5, Value: 1, Aux: 1, Data: strings.Repeat("1", api.MaxData)},
		{Kind: api.EvBit, From: 4, To: 4, Value: 1},
		{Kind: api.EvBit, From: end, To: end, Value: 0, Aux: -1, Data: "x"},
	}
	decodes(t, one, l, []api.Event{bit(1, 3, 3, -1<<53, 0), bit(0, 3, end, 1<<53, 0), bit(1, 3, 5, 1, 0), bit(0, 4, 4, 0, 0), bit(1, end, end, -1, 0)})
	decodes(t, zero, l, []api.Event{bit(0, 3, 3, -1<<53, 0), bit(1, 3, end, 1<<53, 0), bit(0, 3, 5, 1, 0), bit(1, 4, 4, 0, 0), bit(0, end, end, -1, 0)})
}

// P16.2: a faulty event is a bit like any other one, whatever its fault, and its fault is passed on.
func TestFaults(t *testing.T) {
	for fault := api.FtNone; fault <= api.FtUnknown; fault++ {
		for number := range 1 << 4 {
			for mask := range 1 << 4 {
				l := bits(decodertest.Sequence(number, 4), 9)
				for i := range l {
					l[i].Fault = mask >> i & 1 * fault
				}
				decodes(t, one, l, decoded(one, l))
				decodes(t, zero, l, decoded(zero, l))
			}
		}
	}
	l := []api.Event{bit(0, 0, 4, 2, api.FtAborted), bit(0, 4, 8, 0, api.FtNone), bit(1, 8, 12, 0, api.FtTiming), bit(1, 12, 16, 1, api.FtUnknown)}
	decodes(t, one, l, []api.Event{bit(1, 0, 4, 2, api.FtAborted), bit(0, 4, 8, 0, api.FtNone), bit(1, 8, 12, 0, api.FtTiming), bit(0, 12, 16, 1, api.FtUnknown)})
}

// P16.2: all sequences of up to 12 bits.
func TestShortSequences(t *testing.T) {
	for _, c := range both {
		for n := range 13 {
			for number := range 1 << n {
				s := decodertest.Sequence(number, n)
				decodes(t, c, bits(s, number), bits(model(c, s), number))
			}
		}
	}
}

// P16.2
func TestRandomEvents(t *testing.T) {
	r := rand.New(rand.NewSource(162))
	for range 2000 {
		l := random(r, r.Intn(60))
		for _, c := range both {
			decodes(t, c, l, decoded(c, l))
		}
	}
}

// P16.2: there is no limit of events.
func TestManyEvents(t *testing.T) {
	s := strings.Repeat("0011101", api.MaxEvents/7+1)
	l := bits(s, 0)
	for _, c := range both {
		if got := nrzi.Decode(c, l); !slices.Equal(got, bits(model(c, s), 0)) {
			t.Errorf("%v: %s", c, brief(got))
		}
	}
}

// P16.5: Zero inverts each decoded bit.
func TestInvertedBits(t *testing.T) {
	r := rand.New(rand.NewSource(165))
	for range 500 {
		l := random(r, r.Intn(40))
		with := nrzi.Decode(zero, l)
		for i, b := range nrzi.Decode(one, l) {
			b.Value = 1 - b.Value
			if with[i] != b {
				t.Errorf("%s: %v, not %v", brief(l), with[i], b)
			}
		}
	}
}

// P16.5: inverted input is decoded in the same way, apart from the first bit.
func TestInvertedInput(t *testing.T) {
	r := rand.New(rand.NewSource(166))
	for range 500 {
		l := random(r, 1+r.Intn(40))
		inverted := slices.Clone(l)
		for i := range inverted {
			inverted[i].Value = 1 - inverted[i].Value
		}
		for _, c := range both {
			want := nrzi.Decode(c, l)
			want[0].Value = 1 - want[0].Value
			decodes(t, c, inverted, want)
		}
	}
}

// D4: an ignored event changes nothing, be it faulty or not.
func TestIgnoredEvents(t *testing.T) {
	l := bits("01101000", 5)
	for _, c := range both {
		var mixed []api.Event
		s := nrzi.Start(c)
		for i, e := range l {
			var wrong []api.Event
			for _, fault := range []int{api.FtNone, api.FtFraming, api.FtAborted} {
				same, opposite := e, e
				same.Fault, opposite.Fault, opposite.Value = fault, fault, 1-e.Value
				wrong = append(wrong, slices.Concat(decodertest.WrongBits(same), decodertest.WrongBits(opposite))...)
				if i > 0 {
					last := l[i-1].From
					wrong = append(wrong, bit(e.Value, last-1, e.To, 0, fault), bit(1-e.Value, last-1, last+8, 0, fault), bit(1-e.Value, 0, end, 0, fault))
				}
			}
			if got := functions.NotIgnored(c, s, wrong); len(got) > 0 {
				t.Errorf("%v: not ignored: %s", c, brief(got))
			}
			mixed = append(append(mixed, wrong...), e)
			s, _ = nrzi.Step(c, s, e)
		}
		decodes(t, c, mixed, decoded(c, l))
		decodes(t, c, decodertest.WrongBits(bit(0, 5, 9, 0, 0)), nil)
	}
}

// D4: an event is in order if it does not begin before the last accepted one, whenever that one ends.
func TestOrder(t *testing.T) {
	l := []api.Event{bit(0, 10, 50, 0, 0), bit(1, 9, 60, 0, 0), bit(1, 10, 10, 0, 0), bit(0, 9, 9, 0, 1), bit(0, 11, 12, 0, 1), bit(1, 10, 20, 0, 0), bit(1, 40, 41, 0, 0)}
	accepted := []api.Event{l[0], l[2], l[4], l[6]}
	for _, c := range both {
		decodes(t, c, l, decoded(c, accepted))
		for _, from := range []int{0, 1, end} {
			decodes(t, c, []api.Event{bit(0, from, end, 0, 0)}, decoded(c, []api.Event{bit(0, from, end, 0, 0)}))
		}
	}
}
