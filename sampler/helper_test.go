package sampler_test

import (
	"fmt"
	"math/big"
	"math/bits"
	"math/rand"
	"slices"
	"testing"

	"signalbench/api"
	"signalbench/sampler"
)

const end = api.MaxTime

// clock returns the clock with this bit time.
func clock(num, den int) api.Clock { return api.Clock{T: api.Ratio{Num: num, Den: den}} }

// clocks returns valid clocks with the least and the greatest bit times, whole and broken ones, and the greatest parts.
func clocks() []api.Clock {
	return []api.Clock{
		clock(4, 1), clock(9, 2), clock(5, 1), clock(13, 3), clock(23, 5), clock(6, 1), clock(20, 3), clock(8, 1), clock(434, 5), clock(100, 1),
		clock(1<<30-3, 1<<28-1), clock(1<<30, 1<<28-1), clock(1<<30-1, 1<<27), clock(1<<30-1, 1<<20), clock(1<<30, 1025), clock(1<<30-1, 1<<10), clock(1<<20, 1),
	}
}

// level returns an event of a level.
func level(value, from, to int) api.Event {
	return api.Event{Kind: api.EvLevel, From: from, To: to, Value: value}
}

// levels returns events of levels, the first of which begins at a tick, with these levels and numbers of ticks, which alternate.
func levels(at int, n ...int) []api.Event {
	var l []api.Event
	for i := 0; i < len(n); i += 2 {
		l = append(l, level(n[i], at, at+n[i+1]))
		at += n[i+1]
	}
	return l
}

// bit returns an event of a bit.
func bit(value, from, to, fault int) api.Event {
	return api.Event{Kind: api.EvBit, From: from, To: to, Value: value, Fault: fault}
}

// drawn returns events of one tick each with the n lowest bits of a number as levels, the lowest one at tick 0.
func drawn(number, n int) []api.Event {
	var l []api.Event
	for i := range n {
		l = append(l, level(number>>i&1, i, i+1))
	}
	return l
}

// cut returns the events joined, apart from the bounds between two of them that a mask selects.
func cut(l []api.Event, mask int) []api.Event {
	var all []api.Event
	for i, e := range l {
		last := len(all) - 1
		if i > 0 && mask>>(i-1)&1 == 0 && all[last].Value == e.Value {
			all[last].To = e.To
		} else {
			all = append(all, e)
		}
	}
	return all
}

// times returns the greatest integer that is not greater than n * T / d, from a product of 128 bits.
func times(c api.Clock, n, d int) int {
	high, low := bits.Mul64(uint64(n), uint64(c.T.Num))
	quotient, _ := bits.Div64(high, low, uint64(d)*uint64(c.T.Den))
	return int(quotient)
}

// far reports whether a distance is greater than T / 4.
func far(c api.Clock, distance int) bool {
	return big.NewRat(4*int64(distance), 1).Cmp(big.NewRat(int64(c.T.Num), int64(c.T.Den))) > 0
}

// stray reports whether a tick is far from every boundary of an anchor.
func stray(c api.Clock, anchor, tick int) bool {
	for k := 0; ; k++ {
		b := anchor + times(c, k, 1)
		if !far(c, max(tick-b, b-tick)) {
			return false
		}
		if b > tick {
			return true
		}
	}
}

// sampled is a bit and the tick that determines it.
type sampled struct {
	at  int
	bit api.Event
}

// model returns the bits of events of levels that follow one another, from the definitions.
func model(c api.Clock, l []api.Event) []sampled {
	l = cut(l, 0)
	var all []sampled
	irregular := -1
	for i, e := range l {
		if i > 0 && stray(c, l[i-1].From, e.From) {
			irregular = e.From
		}
		for k := 0; ; k++ {
			at := e.From + times(c, 2*k+1, 2)
			if at >= e.To {
				break
			}
			b := bit(e.Value, e.From+times(c, k, 1), min(e.From+times(c, k+1, 1), end), api.FtNone)
			if irregular >= 0 && (len(all) == 0 || irregular > all[len(all)-1].at) {
				b.Fault = api.FtTiming
			}
			all = append(all, sampled{at, b})
		}
	}
	return all
}

// part returns the bits that are determined within an event.
func part(all []sampled, e api.Event) []api.Event {
	var l []api.Event
	for _, s := range all {
		if e.From <= s.at && s.at < e.To {
			l = append(l, s.bit)
		}
	}
	return l
}

// within returns all these bits.
func within(all []sampled) []api.Event {
	return part(all, level(0, 0, end))
}

// decodes reports an error unless Decode returns these bits.
func decodes(t *testing.T, c api.Clock, l, want []api.Event) {
	t.Helper()
	if got := sampler.Decode(c, l); !slices.Equal(got, want) {
		t.Errorf("%v %s: %s, not %s", c.T, brief(l), brief(got), brief(want))
	}
}

// steps reports an error unless each Step for events of levels that follow one another returns the bits that it determines, and Decode all of them.
func steps(t *testing.T, c api.Clock, l []api.Event) {
	t.Helper()
	all := model(c, l)
	s := sampler.Start(c)
	for i, e := range l {
		var got []api.Event
		s, got = sampler.Step(c, s, e)
		if want := part(all, e); !slices.Equal(got, want) {
			t.Errorf("%v %s: step %d: %s, not %s", c.T, brief(l), i, brief(got), brief(want))
		}
	}
	if last := sampler.End(c, s); len(last) > 0 {
		t.Errorf("%v %s: end: %v", c.T, brief(l), last)
	}
	decodes(t, c, l, within(all))
}

// random returns events of levels from a tick on, most of which change the level near a boundary.
func random(r *rand.Rand, c api.Clock, at, n int) []api.Event {
	var l []api.Event
	value := r.Intn(2)
	whole := times(c, 1, 1)
	for range n {
		ticks := times(c, r.Intn(5), 1)
		switch r.Intn(4) {
		case 0:
			ticks += whole/4 - 1 + r.Intn(3)
		case 1:
			ticks -= whole/4 - 1 + r.Intn(3)
		case 2:
			ticks += r.Intn(whole)
		}
		ticks = max(ticks, 1)
		l = append(l, level(value, at, at+ticks))
		at += ticks
		if r.Intn(4) > 0 {
			value = 1 - value
		}
	}
	return l
}

// brief returns the beginning and the length of a list as text.
func brief[T any](l []T) string {
	return fmt.Sprintf("%.300q of %d", fmt.Sprint(l[:min(len(l), 8)]), len(l))
}
