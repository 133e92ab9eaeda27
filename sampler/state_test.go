package sampler_test

import (
	"math/rand"
	"slices"
	"testing"

	"signalbench/api"
	"signalbench/decodertest"
	"signalbench/sampler"
)

// D4: an ignored event changes nothing.
func TestIgnoredEvents(t *testing.T) {
	l := levels(5, 1, 12, 0, 9, 0, 3, 1, 8, 0, 30)
	for _, c := range []api.Clock{clock(4, 1), clock(8, 1), clock(23, 5)} {
		var mixed []api.Event
		s := sampler.Start(c)
		for i, e := range l {
			wrong := slices.Concat(decodertest.WrongLevels(e), decodertest.WrongLevels(level(1-e.Value, e.From, e.To)))
			if i > 0 {
				wrong = append(wrong, decodertest.Misplaced(e)...)
			}
			if got := functions.NotIgnored(c, s, wrong); len(got) > 0 {
				t.Errorf("%v: not ignored: %s", c.T, brief(got))
			}
			mixed = append(append(mixed, wrong...), e)
			s, _ = sampler.Step(c, s, e)
		}
		decodes(t, c, mixed, within(model(c, l)))
		decodes(t, c, decodertest.WrongLevels(level(1, 5, 17)), nil)
	}
}

// D4: Aux and Data of an accepted event have no meaning.
func TestAcceptedEvents(t *testing.T) {
	c, l := clock(8, 1), levels(5, 1, 12, 0, 9, 0, 3, 1, 8)
	want := within(model(c, l))
	for i, e := range l {
		for _, x := range decodertest.AcceptedLevels(e) {
			other := slices.Clone(l)
			other[i] = x
			decodes(t, c, other, want)
		}
	}
	// The first event may begin at any tick.
	for _, from := range []int{0, 1, 1000, end - 8} {
		decodes(t, c, levels(from, 0, 8), []api.Event{bit(0, from, from+8, api.FtNone)})
	}
}

// D2, D3: Step continues from the state that it is given, as often as it is asked, and End emits nothing.
func TestStates(t *testing.T) {
	r := rand.New(rand.NewSource(15))
	for _, c := range clocks() {
		l := random(r, c, 100, 12)
		for i := range l {
			s := functions.After(c, l[:i])
			want := part(model(c, l), l[i])
			for range 2 {
				next, bits := sampler.Step(c, s, l[i])
				if !slices.Equal(bits, want) || next != functions.After(c, l[:i+1]) {
					t.Errorf("%v %s: step %d: %v %s, not %s", c.T, brief(l), i, next, brief(bits), brief(want))
				}
				if bits := sampler.End(c, next); len(bits) > 0 {
					t.Errorf("%v %s: end %v", c.T, brief(l), bits)
				}
			}
		}
	}
}

// D3: there is no panic in other states.
func TestOtherStates(t *testing.T) {
	for _, c := range clocks() {
		functions.OtherStates(c, decodertest.LevelsAfter)
	}
}
