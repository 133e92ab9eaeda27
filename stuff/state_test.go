package stuff_test

import (
	"math/rand"
	"slices"
	"testing"

	"signalbench/api"
	"signalbench/decodertest"
	"signalbench/stuff"
)

// D2, D3: Step continues from the state that it is given, as often as it is asked, and End emits nothing.
func TestStates(t *testing.T) {
	r := rand.New(rand.NewSource(19))
	for range 50 {
		l := random(r, 6)
		for _, c := range configurations(5) {
			for i := range l {
				s, after := functions.After(c, l[:i]), functions.After(c, l[:i+1])
				want := decoded(c, l[:i+1])[len(decoded(c, l[:i])):]
				for range 2 {
					next, events := stuff.Step(c, s, l[i])
					if !slices.Equal(events, want) || next != after {
						t.Errorf("%v %s: step %d: %v %v, not %v", c, brief(l), i, next, events, want)
					}
					if events := stuff.End(c, next); len(events) > 0 {
						t.Errorf("%v %s: end %v", c, brief(l), events)
					}
				}
			}
		}
	}
}

// D3: there is no panic in other states.
func TestOtherStates(t *testing.T) {
	for _, c := range []api.Stuff{ones(2), ones(5), equal(2), equal(16)} {
		functions.OtherStates(c, func(at int) [][2]api.Event {
			return [][2]api.Event{{bit(0, 0, 4, 0, 0), bit(0, end, end, 0, 0)}, {bit(1, at, at+4, 0, 0), bit(1, at+4, at+8, 0, 0)}, {bit(1, end, end, 0, 1), {}}, {}}
		})
	}
}

// R2, R3: the arguments stay as they are, also behind their ends, results are new memory, and a call returns the same again.
func TestMemory(t *testing.T) {
	for _, c := range configurations(4) {
		events, given := bits("0110100011100000111", 3), []api.Item{{Data: "0"}, {}, faulty("1111"), {Gap: 2, Data: "0000"}, {Data: "01"}}
		all, read := slices.Clone(events), slices.Clone(given)
		for n := range events {
			for range 3 {
				got := stuff.Decode(c, events[:n])
				if !slices.Equal(got, decoded(c, all[:n])) {
					t.Errorf("%v %d: %v", c, n, got)
				}
				_, step := stuff.Step(c, functions.After(c, events[:n]), events[n])
				if !slices.Equal(step, decoded(c, all[:n+1])[len(got):]) {
					t.Errorf("%v %d: %v", c, n, step)
				}
				encodes(t, c, given[:n%6], encoded(c, read[:n%6]))
				sent, _ := stuff.Encode(c, given[:n%6])
				decodertest.Spoil(got, bit(9, 9, 9, 9, 9))
				decodertest.Spoil(step, bit(9, 9, 9, 9, 9))
				decodertest.Spoil(sent, api.Item{Gap: 9, Data: "9"})
				if !slices.Equal(events, all) || !slices.Equal(given, read) {
					t.Fatalf("%v %d: %v %v", c, n, events, given)
				}
			}
		}
	}
}
