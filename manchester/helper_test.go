package manchester_test

import (
	"cmp"
	"fmt"
	"math/bits"
	"math/rand"
	"slices"
	"testing"

	"signalbench/api"
	"signalbench/decodertest"
	"signalbench/manchester"
)

const end = api.MaxTime

// functions are those of the decoder.
var functions = decodertest.Decoder[api.Manchester]{Start: manchester.Start, Step: manchester.Step, End: manchester.End}

var (
	level  = decodertest.Level
	levels = decodertest.Levels
	drawn  = decodertest.Drawn
	cut    = decodertest.Cut
	of     = decodertest.Items
)

// ieee and thomas return the two codes with this bit time.
func ieee(num, den int) api.Manchester {
	return api.Manchester{T: api.Ratio{Num: num, Den: den}, Ieee: true}
}
func thomas(num, den int) api.Manchester { return api.Manchester{T: api.Ratio{Num: num, Den: den}} }

// codes returns valid configurations.
func codes() []api.Manchester {
	var l []api.Manchester
	for _, t := range decodertest.BitTimes() {
		l = append(l, ieee(t.Num, t.Den), thomas(t.Num, t.Den))
	}
	return l
}

// times returns the greatest integer that is not greater than n * T / d.
func times(c api.Manchester, n, d int) int { return decodertest.Times(c.T, n, d) }

// compare compares q * d with n * T, from a product of 128 bits.
func compare(c api.Manchester, q, d, n int) int {
	high, low := bits.Mul64(uint64(q*d), uint64(c.T.Den))
	if high > 0 {
		return 1
	}
	return cmp.Compare(low, uint64(n*c.T.Num))
}

// inverted returns events of levels with the other levels.
func inverted(l []api.Event) []api.Event {
	l = slices.Clone(l)
	for i := range l {
		l[i].Value = 1 - l[i].Value
	}
	return l
}

// channel returns the events of the channel for those of the signal, and the other way round.
func channel(c api.Manchester, l []api.Event) []api.Event {
	if c.Ieee {
		return l
	}
	return inverted(l)
}

// bit returns an event of a bit without a fault.
func bit(value, from, to int) api.Event {
	return api.Event{Kind: api.EvBit, From: from, To: to, Value: value}
}

// broken returns an event of a bit without an edge in its middle.
func broken(from, to int) api.Event {
	return api.Event{Kind: api.EvBit, From: from, To: to, Fault: api.FtCode}
}

// model returns the bits of events of levels that follow one another, from the definitions. The last tick of a bit is
// followed by the one that determines it.
func model(c api.Manchester, l []api.Event) []api.Event {
	var all []api.Event
	idle, m, last := true, 0, 0
	for _, e := range channel(c, l) {
		if e.Value == last {
			continue
		}
		last = e.Value
		d := e.From - m
		if idle || compare(c, 1, d, 2) >= 0 {
			idle, m = last == 0, e.From
			continue
		}
		if compare(c, 4, d, 3) < 0 {
			continue
		}
		b := bit(last, m+times(c, 1, 2), e.From)
		if compare(c, 4, d, 5) > 0 {
			b = broken(b.From, b.To)
		}
		m, all = e.From, append(all, b)
	}
	return all
}

// part returns the bits that are determined within an event.
func part(all []api.Event, e api.Event) []api.Event {
	var l []api.Event
	for _, b := range all {
		if e.From <= b.To && b.To < e.To {
			l = append(l, b)
		}
	}
	return l
}

// decodes reports an error unless Decode returns these bits.
func decodes(t *testing.T, c api.Manchester, l, want []api.Event) {
	t.Helper()
	if got := manchester.Decode(c, l); !slices.Equal(got, want) {
		t.Errorf("%v %s: %s, not %s", c, brief(l), brief(got), brief(want))
	}
}

// decodesSignal reports an error unless both codes with a bit time return these bits for a signal.
func decodesSignal(t *testing.T, num, den int, l, want []api.Event) {
	t.Helper()
	decodes(t, ieee(num, den), l, want)
	decodes(t, thomas(num, den), inverted(l), want)
}

// steps reports an error unless each Step for events of levels that follow one another returns the bits that it determines,
// End none, and Decode all of them.
func steps(t *testing.T, c api.Manchester, l []api.Event) {
	t.Helper()
	all := model(c, l)
	for i, got := range functions.Steps(c, l) {
		var want []api.Event
		if i < len(l) {
			want = part(all, l[i])
		}
		if !slices.Equal(got, want) {
			t.Errorf("%v %s: step %d: %s, not %s", c, brief(l), i, brief(got), brief(want))
		}
	}
	decodes(t, c, l, all)
}

// random returns events of levels from a tick on, most of which are about as long as those of a transmission, and some
// of which do not change the level.
func random(r *rand.Rand, c api.Manchester, at, n int) []api.Event {
	var l []api.Event
	value := r.Intn(2)
	for range n {
		ticks := times(c, 2+2*r.Intn(3), 4)
		switch r.Intn(6) {
		case 0:
			ticks = times(c, 1+r.Intn(10), 4) - 1 + r.Intn(3)
		case 1:
			ticks += r.Intn(3) - 1
		case 2:
			ticks = r.Intn(times(c, 3, 1))
		}
		ticks = max(ticks, 1)
		l = append(l, level(value, at, at+ticks))
		at += ticks
		if r.Intn(5) > 0 {
			value = 1 - value
		}
	}
	return l
}

// brief returns the beginning and the length of a list as text.
func brief[T any](l []T) string {
	return fmt.Sprintf("%.300q of %d", fmt.Sprint(l[:min(len(l), 8)]), len(l))
}
