package nrzi_test

import (
	"math"
	"math/rand"
	"slices"
	"testing"

	"signalbench/api"
	"signalbench/nrzi"
)

// after returns the state after these events.
func after(c api.Nrzi, l []api.Event) api.State {
	s := nrzi.Start(c)
	for _, e := range l {
		s, _ = nrzi.Step(c, s, e)
	}
	return s
}

// D2, D3: Step continues from the state that it is given, as often as it is asked, and End emits nothing.
func TestStates(t *testing.T) {
	r := rand.New(rand.NewSource(16))
	for range 100 {
		l := random(r, 20)
		for _, c := range both {
			want := decoded(c, l)
			for i := range l {
				s := after(c, l[:i])
				for range 2 {
					next, events := nrzi.Step(c, s, l[i])
					if !slices.Equal(events, want[i:i+1]) || next != after(c, l[:i+1]) {
						t.Errorf("%v %s: step %d: %v %v, not %v", c, brief(l), i, next, events, want[i])
					}
					if events := nrzi.End(c, next); len(events) > 0 {
						t.Errorf("%v %s: end %v", c, brief(l), events)
					}
				}
			}
		}
	}
}

// D3: there is no panic in other states.
func TestOtherStates(t *testing.T) {
	numbers := []int{math.MinInt, -1 << 40, -1, 0, 1, 2, 48, end, end + 1, math.MaxInt}
	for _, c := range both {
		for _, n := range numbers {
			for _, m := range numbers {
				for _, s := range []api.State{{Phase: n, At: m, From: n, Count: m, Acc: n, Aux: m, Prev: m, Data: "x"}, {Prev: n}, {From: n}} {
					for _, e := range []api.Event{bit(0, 0, 4, 0, 0), bit(1, m, m+4, 0, 0), bit(1, end, end, 0, 1), {}} {
						next, _ := nrzi.Step(c, s, e)
						nrzi.Step(c, next, bit(0, end, end, 0, 0))
						nrzi.End(c, next)
					}
					nrzi.End(c, s)
				}
			}
		}
	}
}

// spoil overwrites a list with an element, also behind its end.
func spoil[T any](l []T, x T) {
	l = l[:cap(l)]
	for i := range l {
		l[i] = x
	}
}

// R2, R3: the arguments stay as they are, also behind their ends, results are new memory, and a call returns the same again.
func TestMemory(t *testing.T) {
	for _, c := range both {
		events, sent := bits("0110100011", 3), items("0", "", "110", "0", "01")
		all, read := slices.Clone(events), slices.Clone(sent)
		for n := range events {
			for range 3 {
				got := nrzi.Decode(c, events[:n])
				if !slices.Equal(got, decoded(c, all[:n])) {
					t.Errorf("%v %d: %v", c, n, got)
				}
				_, step := nrzi.Step(c, after(c, events[:n]), events[n])
				if !slices.Equal(step, decoded(c, all[:n+1])[n:]) {
					t.Errorf("%v %d: %v", c, n, step)
				}
				encodes(t, c, sent[:n%5])
				encoded, _ := nrzi.Encode(c, sent[:n%5])
				spoil(got, bit(9, 9, 9, 9, 9))
				spoil(step, bit(9, 9, 9, 9, 9))
				spoil(encoded, api.Item{Gap: 9, Data: "9"})
				if !slices.Equal(events, all) || !slices.Equal(sent, read) {
					t.Fatalf("%v %d: %v %v", c, n, events, sent)
				}
			}
		}
	}
}
