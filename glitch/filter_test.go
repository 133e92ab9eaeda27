package glitch_test

import (
	"fmt"
	"math/rand"
	"slices"
	"testing"

	"signalbench/api"
	"signalbench/glitch"
)

// compared reports an error unless Count and Filter return these results.
func compared(t *testing.T, l []api.Run, least, count int, want []api.Run) {
	t.Helper()
	what := fmt.Sprint(brief(l), ", least ", least)
	if n := glitch.Count(l, least); n != count {
		t.Errorf("%s: %d pulses, not %d", what, n, count)
	}
	equal(t, what, glitch.Filter(l, least), want)
}

// P13.1, P13.2
func TestExamples(t *testing.T) {
	compared(t, turns(0, 5, 2, 3, 1, 4), 3, 2, runs(0, 15))
	compared(t, turns(0, 5, 2, 2, 5), 3, 2, runs(0, 9, 1, 5))
}

// P13.1, P13.2
func TestPulses(t *testing.T) {
	for _, x := range []struct {
		l     []api.Run
		least int
		count int
		want  []api.Run
	}{
		{turns(0, 5, 2, 5), 1, 0, turns(0, 5, 2, 5)}, {turns(0, 5, 2, 5), 2, 0, turns(0, 5, 2, 5)}, {turns(0, 5, 2, 5), 3, 1, runs(0, 12)}, {turns(1, 5, 2, 5), 3, 1, runs(1, 12)},
		// The first and the last run are no pulses, however short they are.
		{turns(0, 1, 9, 1), 5, 0, turns(0, 1, 9, 1)}, {turns(1, 1), 9, 0, runs(1, 1)}, {turns(0, 1, 1), 9, 0, turns(0, 1, 1)}, {turns(1, 1, 1, 1), 9, 1, runs(1, 3)},
		// A joined run that is the first one, or the last one, is no pulse either.
		{turns(0, 1, 1, 1, 1), 9, 2, turns(0, 3, 1)}, {turns(0, 1, 1, 1, 1, 1), 9, 3, runs(0, 5)}, {turns(0, 1, 1, 1, 9, 2), 9, 2, turns(0, 3, 9, 2)}, {turns(0, 9, 9, 1, 1), 9, 1, turns(0, 9, 11)},
		// A pulse between short ones keeps its level, or is joined with its neighbors.
		{turns(0, 9, 2, 2, 2, 9), 3, 3, runs(0, 24)}, {turns(0, 9, 2, 2, 2, 2, 9), 3, 4, turns(0, 17, 9)}, {turns(0, 9, 3, 2, 3, 9), 3, 1, turns(0, 9, 8, 9)}, {turns(0, 9, 2, 3, 2, 9), 3, 2, runs(0, 25)},
		{turns(1, 9, 3, 2, 1, 1, 3, 9), 3, 3, turns(1, 9, 10, 9)}, {turns(1, 9, 4, 4, 1, 4, 1, 4, 4, 9), 4, 2, turns(1, 9, 4, 14, 4, 9)},
		// Short pulses are those of the clean wave.
		{runs(0, 5, 1, 2, 1, 2, 0, 5), 4, 0, turns(0, 5, 4, 5)}, {runs(0, 5, 1, 2, 1, 2, 0, 5), 5, 1, runs(0, 14)}, {runs(0, 1, 0, 1, 0, 1, 1, 9), 3, 0, turns(0, 3, 9)}, {runs(1, 1, 1, 1, 1, 1), 3, 0, runs(1, 3)},
	} {
		compared(t, x.l, x.least, x.count, x.want)
	}
}

// P13.1, P13.2
func TestShortWaves(t *testing.T) {
	for _, l := range short(7) {
		s := drawn(l)
		for _, least := range slices.Concat(leasts(), []int{2, 3, 4, 5, 6, 7, 8}) {
			compared(t, l, least, len(shortPulses(s, least)), read(filtered(s, least)))
		}
	}
}

// P13.1, P13.2
func TestShortCleanWaves(t *testing.T) {
	for n := 8; n <= 13; n++ {
		for bits := range 1 << n {
			s := fmt.Sprintf("%0*b", n, bits)
			for least := 1; least <= 7; least++ {
				compared(t, read(s), least, len(shortPulses(s, least)), read(filtered(s, least)))
			}
		}
	}
}

// P13.1, P13.2
func TestLongestWaves(t *testing.T) {
	for _, l := range exactly(8, 1) {
		s, longest := drawn(l), stretched(l, stretch)
		for k := range 9 {
			// Runs of k stretched ticks are too short for one tick more.
			for d, same := range map[int]int{-1: k, 0: k, 1: k + 1} {
				compared(t, longest, k*stretch+d, len(shortPulses(s, same)), stretched(read(filtered(s, same)), stretch))
			}
		}
	}
}

// P13.1, P13.2
func TestRandomWaves(t *testing.T) {
	r := rand.New(rand.NewSource(131))
	for range 3000 {
		l, least := random(r, 100), r.Intn(15)
		s := drawn(l)
		compared(t, l, least, len(shortPulses(s, least)), read(filtered(s, least)))
	}
}

// P13.1, P13.2
func TestManyRuns(t *testing.T) {
	const n, k = api.MaxRuns, end / api.MaxRuns
	alternating := repeated(n, k, 0, 1)
	compared(t, alternating, k, 0, alternating)
	compared(t, alternating, k+1, n-2, turns(0, end-k, k))
	compared(t, alternating[:n-1], k+1, n-3, runs(0, end-k))
	compared(t, repeated(n, k, 1), end+1, 0, runs(1, end))
	compared(t, repeated(n, k, 0, 0, 1, 1), 2*k, 0, repeated(n/2, 2*k, 0, 1))
	compared(t, repeated(n, k, 0, 0, 1, 1), 2*k+1, n/2-2, turns(0, end-2*k, 2*k))
	// Every fourth run is too short, and joins its neighbors.
	var l, want []api.Run
	for range n / 4 {
		l = append(l, turns(1, 5, 5, 2, 5)...)
		want = append(want, turns(1, 5, 12)...)
	}
	compared(t, l, 5, n/4, slices.Concat(turns(1, 5, 12), want[2:]))
	// Each wave has one short pulse: the last one, the first one, or one in the middle.
	for _, i := range []int{n - 2, 1, n / 2} {
		l := repeated(n, 3, 0, 1)
		l[i].Ticks = 2
		compared(t, l, 3, 1, slices.Concat(l[:i-1], runs((i-1)%2, 8), l[i+2:]))
	}
}

// P13.1, P13.2
func TestAnyLeast(t *testing.T) {
	for _, l := range right() {
		clean := cleaned(l)
		for _, least := range leasts() {
			switch {
			case least <= 1:
				compared(t, l, least, 0, clean)
			case len(clean)%2 == 1:
				// All pulses are too short, and all runs are joined with the first one.
				compared(t, l, least, max(0, len(clean)-2), runs(clean[0].Level, long(l)))
			case len(clean) > 0:
				last := clean[len(clean)-1]
				compared(t, l, least, len(clean)-2, turns(clean[0].Level, long(l)-last.Ticks, last.Ticks))
			default:
				compared(t, l, least, 0, nil)
			}
		}
	}
}

// P13.1, P13.2
func TestNothingOfAWrongWave(t *testing.T) {
	for _, l := range wrong() {
		for _, least := range slices.Concat(leasts(), []int{2, 3, 100}) {
			compared(t, l, least, 0, nil)
		}
	}
}

// P13.5
func TestFilterTwice(t *testing.T) {
	r := rand.New(rand.NewSource(135))
	all := right()
	for range 2000 {
		l := random(r, 200)
		// The factor keeps the wave within the greatest length.
		all = append(all, l, stretched(l, 1+r.Intn(end/2000)))
	}
	for _, l := range all {
		for range 4 {
			// Most of these are about as great as the runs are.
			least := 1
			if len(l) > 0 {
				least += r.Intn(3 * l[r.Intn(len(l))].Ticks)
			}
			once := glitch.Filter(l, least)
			what := fmt.Sprint(brief(l), ", least ", least)
			if n := glitch.Count(once, least); n != 0 {
				t.Errorf("%s: %d short pulses are left in %s", what, n, brief(once))
			}
			if long(once) != long(l) {
				t.Errorf("%s: %d ticks, not %d", what, long(once), long(l))
			}
			equal(t, what, once, cleaned(once))
			equal(t, what+", again", glitch.Filter(once, least), once)
		}
	}
}
