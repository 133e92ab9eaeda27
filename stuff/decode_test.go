package stuff_test

import (
	"math/rand"
	"slices"
	"strings"
	"testing"

	"signalbench/api"
	"signalbench/decodertest"
	"signalbench/stuff"
)

// P19.2: what some events are decoded as; drawn explains the characters.
func TestDecode(t *testing.T) {
	for _, x := range []struct {
		c         api.Stuff
		text, out string
	}{
		{ones(5), "", ""},
		{ones(5), "11111", "11111"},
		{ones(5), "1111101", "11111.1"},
		{ones(5), "11111011111011", "11111.11111.11"},
		{ones(5), "0000000000", "0000000000"},
		{ones(5), "011110111110", "01111011111."},
		// A removed 0 does not count, nor does the zero after it.
		{ones(2), "110011011", "11.011.11"},
		{equal(3), "00011", "000.1"},
		{equal(3), "00011101", "000.11.1"},
		{equal(3), "111000100", "111.00.00"},
		{equal(3), "010110010", "010110010"},
		// The removed bit is the first one of the next run.
		{equal(2), "001100110", "00.1.0.1."},
		{equal(2), "110010", "11.0.0"},
		{equal(3), "000110", "000.10"},
		{equal(3), "1110001", "111.00."},
		// A wrong stuff bit begins nothing: the count goes on with the bit after it.
		{equal(3), "0000", "000x"},
		{equal(3), "00000001", "000x000."},
		{equal(3), "00000000", "000x000x"},
		{equal(3), "0000111", "000x111"},
		{equal(3), "11110001", "111y000."},
		{ones(5), "111111", "11111y"},
		{ones(5), "111111111110", "11111y11111."},
		{ones(5), "11111101111", "11111y01111"},
		{ones(2), "1111101", "11y11.1"},
		// A faulty bit begins nothing, either, be it where a stuff bit is due or not, and whatever its value.
		{equal(3), "00a0001", "00a000."},
		{equal(3), "00b0001", "00b000."},
		{equal(3), "000a0001", "000a000."},
		{equal(3), "000b0001", "000b000."},
		{equal(3), "000b1110", "000b111."},
		{equal(3), "0001a111", "000.a111"},
		{equal(3), "ab0ab0", "ab0ab0"},
		{ones(3), "11b1110", "11b111."},
		{ones(3), "11a1110", "11a111."},
		{ones(3), "111a1110", "111a111."},
		{ones(3), "111b0", "111b0"},
		{ones(3), "bbbb0", "bbbb0"},
		// An event with the fault FtStuff is a faulty one.
		{equal(3), "000xx0001", "000xx000."},
		{ones(3), "111yx1111", "111yx111y"},
		{equal(16), "0000000000000000101", "0000000000000000.01"},
		{ones(16), "111111111111111101", "1111111111111111.1"},
		{ones(16), "11111111111111111", "1111111111111111y"},
	} {
		decodes(t, x.c, drawn(x.text, 9), drawn(x.out, 9))
	}
}

// P19.2: an event is passed on with From, To, Value, Aux and Fault, but without Data.
func TestFields(t *testing.T) {
	long := strings.Repeat("1", api.MaxData)
	l := []api.Event{
		{Kind: api.EvBit, From: 3, To: 3, Value: 1, Aux: -1 << 53, Data: "1"},
		{Kind: api.EvBit, From: 3, To: end, Value: 1, Aux: 1 << 53, Data: "\x00"},
		{Kind: api.EvBit, From: 3, To: 5, Value: 0, Aux: 7, Data: "removed"},
		{Kind: api.EvBit, From: 4, To: 4, Value: 1, Aux: 2},
		{Kind: api.EvBit, From: 4, To: 8, Value: 1, Aux: 1, Data: long},
		{Kind: api.EvBit, From: 5, To: 9, Value: 1, Aux: -1, Data: long},
		{Kind: api.EvBit, From: end, To: end, Value: 1, Aux: 3, Data: long, Fault: api.FtUnknown},
		{Kind: api.EvBit, From: end, To: end, Value: 0, Aux: 4, Data: "x", Fault: api.FtFraming},
	}
	decodes(t, ones(2), l, []api.Event{
		bit(1, 3, 3, -1<<53, 0), bit(1, 3, end, 1<<53, 0), bit(1, 4, 4, 2, 0), bit(1, 4, 8, 1, 0), bit(1, 5, 9, -1, api.FtStuff),
		bit(1, end, end, 3, api.FtUnknown), bit(0, end, end, 4, api.FtFraming),
	})
}

// P19.2: every fault is passed on, wherever the event stands.
func TestFaults(t *testing.T) {
	for _, c := range configurations(4) {
		for number := range 1 << 7 {
			l := bits(decodertest.Sequence(number, 7), number)
			for i := range l {
				for _, e := range decodertest.Faulty(l[i]) {
					faulty := slices.Clone(l)
					faulty[i] = e
					follows(t, c, faulty)
				}
			}
		}
	}
}

// P19.2: all sequences of up to 12 bits, and of up to 7 bits some of which are faulty.
func TestShortSequences(t *testing.T) {
	for _, c := range configurations(5) {
		for n := range 13 {
			for number := range 1 << n {
				follows(t, c, bits(decodertest.Sequence(number, n), number))
			}
		}
		for n := range 8 {
			for number := range 1 << (2 * n) {
				l := bits(decodertest.Sequence(number, n), n)
				for i := range l {
					l[i].Fault = number >> (n + i) & 1 * api.FtCode
				}
				follows(t, c, l)
			}
		}
	}
}

// P19.2: runs of every length, after every other length, for every Run.
func TestRuns(t *testing.T) {
	for _, c := range configurations(most) {
		for n := range most + 4 {
			for m := range 2*most + 4 {
				s := strings.Repeat("0", n) + strings.Repeat("1", m)
				follows(t, c, bits(s+"0110", 0))
				inverted := strings.Repeat("1", n) + strings.Repeat("0", m)
				follows(t, c, bits(inverted+"1001", 0))
			}
		}
	}
}

// P19.2
func TestRandomEvents(t *testing.T) {
	r := rand.New(rand.NewSource(192))
	for range 600 {
		l := random(r, r.Intn(30))
		for _, c := range configurations(most) {
			follows(t, c, l)
		}
	}
}

// P19.2: there is no limit of events.
func TestManyEvents(t *testing.T) {
	l := bits(strings.Repeat("1111100000001", api.MaxEvents/13+1), 0)
	for _, c := range []api.Stuff{ones(2), ones(5), equal(4), equal(16)} {
		if got, want := stuff.Decode(c, l), decoded(c, l); !slices.Equal(got, want) {
			t.Errorf("%v: %s, not %s", c, brief(got), brief(want))
		}
	}
}

// wrongEvents returns events that no decoder accepts, similar to a given one, after an event that begins at a tick. The tick is
// 0 if there is none.
func wrongEvents(e api.Event, last int) []api.Event {
	var l []api.Event
	for _, value := range []int{0, 1} {
		for _, fault := range []int{api.FtNone, api.FtFraming, api.FtStuff} {
			e.Value, e.Fault = value, fault
			l = append(l, decodertest.WrongBits(e)...)
			if last > 0 {
				l = append(l, bit(value, last-1, e.To, 0, fault), bit(value, last-1, last+8, 0, fault), bit(value, 0, end, 0, fault))
			}
		}
	}
	return l
}

// D4: an ignored event changes nothing, be it faulty or not, also where a stuff bit is due.
func TestIgnoredEvents(t *testing.T) {
	for _, c := range []api.Stuff{ones(2), ones(3), equal(2), equal(3)} {
		l := drawn("01110000111011110111a000110000011110", 5)
		var mixed []api.Event
		s := stuff.Start(c)
		last := 0
		for _, e := range l {
			wrong := wrongEvents(e, last)
			if got := functions.NotIgnored(c, s, wrong); len(got) > 0 {
				t.Errorf("%v: not ignored: %s", c, brief(got))
			}
			mixed = append(append(mixed, wrong...), e)
			s, _ = stuff.Step(c, s, e)
			last = e.From
		}
		decodes(t, c, mixed, decoded(c, l))
		decodes(t, c, decodertest.WrongBits(bit(0, 5, 9, 0, 0)), nil)
	}
}

// D4: an event is in order if it does not begin before the last accepted one, be that passed on or not, whenever it ends.
func TestOrder(t *testing.T) {
	for _, c := range []api.Stuff{ones(2), equal(2)} {
		one := func(from, to int) api.Event { return bit(1, from, to, 0, 0) }
		stuffed := bit(0, 20, 90, 0, 0)
		l := []api.Event{one(10, 50), one(9, 60), one(10, 10), stuffed, one(19, 19), bit(0, 19, 80, 0, 1), one(20, 21), one(20, 20)}
		decodes(t, c, l, []api.Event{l[0], l[2], l[6], l[7]})
		faulty := bit(1, 30, 31, 0, api.FtCode)
		l = append(l[:6], one(20, 21), faulty, one(29, 40), faulty, one(30, 30), one(30, 31), bit(1, 30, 30, 0, 0))
		decodes(t, c, l, []api.Event{l[0], l[2], l[6], faulty, faulty, l[10], l[11], bit(1, 30, 30, 0, api.FtStuff)})
		for _, from := range []int{0, 1, end} {
			decodes(t, c, []api.Event{one(from, end)}, []api.Event{one(from, end)})
		}
	}
}
