package nrzi_test

import (
	"math/rand"
	"slices"
	"testing"

	"signalbench/api"
	"signalbench/decodertest"
	"signalbench/nrzi"
)

// D2, D3: Step continues from the state that it is given, as often as it is asked, and End emits nothing.
func TestStates(t *testing.T) {
	r := rand.New(rand.NewSource(16))
	for range 100 {
		l := random(r, 20)
		for _, c := range both {
			want := decoded(c, l)
			for i := range l {
				s := functions.After(c, l[:i])
				for range 2 {
					next, events := nrzi.Step(c, s, l[i])
					if !slices.Equal(events, want[i:i+1]) || next != functions.After(c, l[:i+1]) {
						t.Errorf("%v %s: step %d: %v %v, not %v", c, brief(l), i, next, events, want[i])
					}
					if events := nrzi.End(c, next); len(events) > 0 {
						t.Errorf("%v %s: end %v", c, brief(l), events)
					}
				}
			}
		}
	}
}

// D3: there is no panic in other states.
func TestOtherStates(t *testing.T) {
	for _, c := range both {
		functions.OtherStates(c, func(at int) [][2]api.Event {
			return [][2]api.Event{{bit(0, 0, 4, 0, 0), bit(0, end, end, 0, 0)}, {bit(1, at, at+4, 0, 0), bit(1, at+4, at+8, 0, 0)}, {bit(1, end, end, 0, 1), {}}, {}}
		})
	}
}

// R2, R3: the arguments stay as they are, also behind their ends, results are new memory, and a call returns the same again.
func TestMemory(t *testing.T) {
	for _, c := range both {
		events, sent := bits("0110100011", 3), items("0", "", "110", "0", "01")
		all, read := slices.Clone(events), slices.Clone(sent)
		for n := range events {
			for range 3 {
				got := nrzi.Decode(c, events[:n])
				if !slices.Equal(got, decoded(c, all[:n])) {
					t.Errorf("%v %d: %v", c, n, got)
				}
				_, step := nrzi.Step(c, functions.After(c, events[:n]), events[n])
				if !slices.Equal(step, decoded(c, all[:n+1])[n:]) {
					t.Errorf("%v %d: %v", c, n, step)
				}
				encodes(t, c, sent[:n%5])
				encoded, _ := nrzi.Encode(c, sent[:n%5])
				decodertest.Spoil(got, bit(9, 9, 9, 9, 9))
				decodertest.Spoil(step, bit(9, 9, 9, 9, 9))
				decodertest.Spoil(encoded, api.Item{Gap: 9, Data: "9"})
				if !slices.Equal(events, all) || !slices.Equal(sent, read) {
					t.Fatalf("%v %d: %v %v", c, n, events, sent)
				}
			}
		}
	}
}
