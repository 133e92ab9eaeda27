package sampler_test

import (
	"math"
	"math/rand"
	"slices"
	"strings"
	"testing"

	"signalbench/api"
	"signalbench/sampler"
)

// after returns the state after these events.
func after(c api.Clock, l []api.Event) api.State {
	s := sampler.Start(c)
	for _, e := range l {
		s, _ = sampler.Step(c, s, e)
	}
	return s
}

// alike returns events that are accepted where the given one is: its Aux and its Data have no meaning.
func alike(e api.Event) []api.Event {
	var l []api.Event
	for _, aux := range []int{-1 << 53, -1, 1, 1 << 53} {
		other := e
		other.Aux = aux
		l = append(l, other)
	}
	for _, data := range []string{"x", "\x00\xff", strings.Repeat("1", api.MaxData)} {
		other := e
		other.Data = data
		l = append(l, other)
	}
	return l
}

// ignored returns events that differ from the given one in a way in which they are never accepted.
func ignored(e api.Event) []api.Event {
	var l []api.Event
	for _, kind := range []int{math.MinInt, -1, 0, api.EvBit, api.EvByte, api.EvMark, api.EvFrame, api.EvPacket, api.EvCommand, api.EvPair, 9, math.MaxInt} {
		other := e
		other.Kind = kind
		l = append(l, other)
	}
	for _, value := range []int{math.MinInt, -1 << 53, -2, -1, 2, 3, 4, 1 << 16, 1 << 53, math.MaxInt} {
		other := e
		other.Value = value
		l = append(l, other)
	}
	for _, fault := range []int{math.MinInt, -1, api.FtFraming, api.FtTiming, api.FtAborted, api.FtUnknown, 13, math.MaxInt} {
		other := e
		other.Fault = fault
		l = append(l, other)
	}
	for _, to := range []int{math.MinInt, -1, 0, e.From - 1, e.From, end + 1, math.MaxInt} {
		other := e
		other.To = to
		l = append(l, other)
	}
	for _, aux := range []int{math.MinInt, -1<<53 - 1, 1<<53 + 1, math.MaxInt} {
		other := e
		other.Aux = aux
		l = append(l, other)
	}
	e.Data = strings.Repeat("1", api.MaxData+1)
	return append(l, e)
}

// misplaced returns events that do not begin where the given one does.
func misplaced(e api.Event) []api.Event {
	var l []api.Event
	for _, from := range []int{math.MinInt, -1, 0, e.From - 1, e.From + 1, e.To - 1} {
		if from != e.From {
			other := e
			other.From = from
			l = append(l, other)
		}
	}
	return append(l, level(e.Value, e.To, e.To+8), level(1-e.Value, e.To, e.To+8), level(1, end-1, end))
}

// D4: an ignored event changes nothing.
func TestIgnoredEvents(t *testing.T) {
	l := levels(5, 1, 12, 0, 9, 0, 3, 1, 8, 0, 30)
	for _, c := range []api.Clock{clock(4, 1), clock(8, 1), clock(23, 5)} {
		var mixed []api.Event
		s := sampler.Start(c)
		for i, e := range l {
			wrong := slices.Concat(ignored(e), ignored(level(1-e.Value, e.From, e.To)))
			if i > 0 {
				wrong = append(wrong, misplaced(e)...)
			}
			for _, x := range wrong {
				if next, bits := sampler.Step(c, s, x); next != s || len(bits) > 0 {
					t.Errorf("%v %v: %v %v, not %v", c.T, x, next, bits, s)
				}
			}
			mixed = append(append(mixed, wrong...), e)
			s, _ = sampler.Step(c, s, e)
		}
		decodes(t, c, mixed, within(model(c, l)))
		decodes(t, c, ignored(level(1, 5, 17)), nil)
	}
}

// D4: Aux and Data of an accepted event have no meaning.
func TestAcceptedEvents(t *testing.T) {
	c, l := clock(8, 1), levels(5, 1, 12, 0, 9, 0, 3, 1, 8)
	want := within(model(c, l))
	for i, e := range l {
		for _, x := range alike(e) {
			other := slices.Clone(l)
			other[i] = x
			decodes(t, c, other, want)
		}
	}
	// The first event may begin at any tick.
	for _, from := range []int{0, 1, 1000, end - 8} {
		decodes(t, c, levels(from, 0, 8), []api.Event{bit(0, from, from+8, api.FtNone)})
	}
}

// D2, D3: Step continues from the state that it is given, as often as it is asked, and End emits nothing.
func TestStates(t *testing.T) {
	r := rand.New(rand.NewSource(15))
	for _, c := range clocks() {
		l := random(r, c, 100, 12)
		for i := range l {
			s := after(c, l[:i])
			want := part(model(c, l), l[i])
			for range 2 {
				next, bits := sampler.Step(c, s, l[i])
				if !slices.Equal(bits, want) || next != after(c, l[:i+1]) {
					t.Errorf("%v %s: step %d: %v %s, not %s", c.T, brief(l), i, next, brief(bits), brief(want))
				}
				if bits := sampler.End(c, next); len(bits) > 0 {
					t.Errorf("%v %s: end %v", c.T, brief(l), bits)
				}
			}
		}
	}
}

// D3: there is no panic in other states.
func TestOtherStates(t *testing.T) {
	numbers := []int{math.MinInt, math.MinInt + 1, -1 << 40, -1, 0, 1, 2, 5, 6, 1 << 39, end, end + 1, 1 << 62, math.MaxInt - 1, math.MaxInt}
	for _, c := range clocks() {
		for _, phase := range numbers {
			for _, at := range numbers {
				for _, from := range numbers {
					s := api.State{Phase: phase, At: at, From: from, Count: from, Acc: at, Aux: phase, Prev: phase, Data: "x"}
					for _, e := range []api.Event{level(0, at, at+16), level(1, at, at+16), level(1, 6, 22), level(1, end-1, end)} {
						next, _ := sampler.Step(c, s, e)
						sampler.Step(c, next, level(0, e.To, e.To+16))
						sampler.End(c, next)
					}
					sampler.End(c, s)
				}
			}
		}
	}
}
