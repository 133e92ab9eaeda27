package codegroup_test

import (
	"math/rand"
	"slices"
	"testing"

	"signalbench/api"
	"signalbench/codegroup"
	"signalbench/decodertest"
)

// transmission returns random bits, some of which are faulty.
func transmission(r *rand.Rand) []api.Event {
	l := decodertest.RandomTimes(j+k+random(r, 8), r.Intn)
	for i := range l {
		if r.Intn(50) == 0 {
			l[i].Fault = api.FtTiming
		}
	}
	return l
}

// D2, D3, D7: Step continues from the state that it is given, as often as it is asked, and End changes nothing.
func TestStates(x *testing.T) {
	r := rand.New(rand.NewSource(18))
	for range 50 {
		l := transmission(r)
		for _, c := range both {
			for i := range l {
				before, _ := model(c, l[:i])
				want, last := model(c, l[:i+1])
				s, next := functions.After(c, l[:i]), functions.After(c, l[:i+1])
				for range 2 {
					got, events := codegroup.Step(c, s, l[i])
					if got != next || !slices.Equal(events, want[len(before):]) {
						x.Errorf("%v %s: step %d: %v %v, not %v", c, brief(l), i, got, events, want[len(before):])
					}
					if events := codegroup.End(c, next); !slices.Equal(events, last) {
						x.Errorf("%v %s: end %v, not %v", c, brief(l), events, last)
					}
				}
			}
		}
	}
}

// D3: there is no panic in other states.
func TestOtherStates(x *testing.T) {
	for _, c := range both {
		functions.OtherStates(c, func(at int) [][2]api.Event {
			return [][2]api.Event{{bit(0, 0, 4), bit(0, end, end)}, {bit(1, at, at+4), bit(1, at+4, at+8)}, {decodertest.Faulty(bit(1, end, end))[0], {}}, {}}
		})
	}
}

// R2, R3: the arguments stay as they are, also behind their ends, results are new memory, and a call returns the same again.
func TestMemory(x *testing.T) {
	for _, c := range both {
		events := bits(j+k+sent(c, "\x31\x00")+"00000"+j+k+"11", 3)
		given := items("0", "", "\xff\x00", "110", "01")
		all, read := slices.Clone(events), slices.Clone(given)
		for n := range events {
			for range 3 {
				want, last := model(c, all[:n])
				both := slices.Concat(want, last)
				got := codegroup.Decode(c, events[:n])
				if !slices.Equal(got, both) {
					x.Errorf("%v %d: %v, not %v", c, n, got, both)
				}
				s := functions.After(c, events[:n])
				more, _ := model(c, all[:n+1])
				_, step := codegroup.Step(c, s, events[n])
				if ended := codegroup.End(c, s); !slices.Equal(step, more[len(want):]) || !slices.Equal(ended, last) {
					x.Errorf("%v %d: %v, end %v, not %v and %v", c, n, step, ended, more[len(want):], last)
				} else {
					decodertest.Spoil(ended, bit(9, 9, 9))
				}
				encodes(x, c, given[:n%5], coded(c, read[:n%5]))
				encoded, _ := codegroup.Encode(c, given[:n%5])
				decodertest.Spoil(got, bit(9, 9, 9))
				decodertest.Spoil(step, bit(9, 9, 9))
				decodertest.Spoil(encoded, api.Item{Gap: 9, Data: "9"})
				if !slices.Equal(events, all) || !slices.Equal(given, read) {
					x.Fatalf("%v %d: %v %v", c, n, events, given)
				}
			}
		}
	}
}
