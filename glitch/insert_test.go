package glitch_test

import (
	"fmt"
	"math"
	"math/rand"
	"slices"
	"testing"

	"signalbench/api"
	"signalbench/glitch"
)

// inserted reports an error unless Insert returns this wave.
func inserted(t *testing.T, l []api.Run, at, ticks int, want []api.Run) {
	t.Helper()
	r, e := glitch.Insert(l, at, ticks)
	gives(t, fmt.Sprint(brief(l), " from ", at, " for ", ticks), r, e, want)
}

// refused reports an error unless Insert returns this error.
func refused(t *testing.T, l []api.Run, at, ticks int, want api.Errno) {
	t.Helper()
	r, e := glitch.Insert(l, at, ticks)
	fails(t, fmt.Sprint(brief(l), " from ", at, " for ", ticks), r, e, want)
}

// P13.4
func TestInsert(t *testing.T) {
	l := turns(0, 5, 4, 6)
	inserted(t, l, 1, 2, turns(0, 1, 2, 2, 4, 6))
	inserted(t, l, 6, 1, turns(0, 5, 1, 1, 2, 6))
	// A pulse that meets an edge moves it.
	inserted(t, l, 3, 2, turns(0, 3, 6, 6))
	inserted(t, l, 5, 2, turns(0, 7, 2, 6))
	inserted(t, l, 7, 2, turns(0, 5, 2, 8))
	inserted(t, l, 9, 2, turns(0, 5, 6, 4))
	// A whole run joins its neighbors.
	inserted(t, l, 5, 4, runs(0, 15))
	// A part with edges changes places with them.
	inserted(t, l, 4, 2, turns(0, 4, 1, 1, 3, 6))
	inserted(t, l, 4, 6, turns(0, 4, 1, 4, 1, 5))
	// The beginning and the end of the wave are no edges.
	inserted(t, l, 0, 1, turns(1, 1, 4, 4, 6))
	inserted(t, l, 0, 5, turns(1, 9, 6))
	inserted(t, l, 14, 1, turns(0, 5, 4, 5, 1))
	inserted(t, l, 9, 6, turns(0, 5, 10))
	inserted(t, l, 0, 15, turns(1, 5, 4, 6))
	inserted(t, runs(1, 1), 0, 1, runs(0, 1))
	// The result is clean, where the wave is not.
	inserted(t, runs(0, 2, 0, 3, 1, 1, 1, 1, 0, 4), 2, 1, turns(0, 2, 1, 2, 2, 4))
	inserted(t, runs(0, 2, 0, 3), 0, 5, runs(1, 5))
	inserted(t, runs(1, 2, 1, 3), 2, 3, turns(1, 2, 3))
}

// P13.4
func TestInsertIntoShortWaves(t *testing.T) {
	for _, l := range short(7) {
		s := drawn(l)
		for at := -2; at <= len(s)+1; at++ {
			for ticks := -2; ticks <= len(s)+2; ticks++ {
				if at < 0 || ticks < 1 || at+ticks > len(s) {
					refused(t, l, at, ticks, api.ErrRange)
				} else {
					inserted(t, l, at, ticks, read(inverted(s, at, at+ticks)))
				}
			}
		}
	}
}

// P13.4
func TestInsertIntoLongestWaves(t *testing.T) {
	for _, l := range exactly(8, 1) {
		s, longest := drawn(l), stretched(l, stretch)
		for at := range 8 {
			for to := at + 1; to <= 8; to++ {
				inserted(t, longest, at*stretch, (to-at)*stretch, stretched(read(inverted(s, at, to)), stretch))
			}
		}
	}
}

// P13.4
func TestInsertIntoRandomWaves(t *testing.T) {
	r := rand.New(rand.NewSource(134))
	for range 20000 {
		l := append(random(r, 100), runs(r.Intn(2), 1)...)
		s := drawn(l)
		at := r.Intn(len(s))
		ticks := 1 + r.Intn(len(s)-at)>>r.Intn(6)
		inserted(t, l, at, ticks, read(inverted(s, at, at+ticks)))
	}
}

// P13.4
func TestInsertIntoManyRuns(t *testing.T) {
	const n, k = api.MaxRuns, end / api.MaxRuns
	full := repeated(n, k, 0, 1)
	// One run more, or two.
	for _, x := range [][2]int{{0, 1}, {0, k - 1}, {end - 1, 1}, {end - k + 1, k - 1}, {1, 1}, {1, k - 2}, {k + 1, k - 2}, {1, k}, {end/2 + 1, 1}, {5, end - 9}, {1, end - 1}, {0, end - 1}} {
		refused(t, full, x[0], x[1], api.ErrLimit)
	}
	// As many runs, or fewer.
	inserted(t, full, k, 1, slices.Concat(turns(0, k+1, k-1), full[2:]))
	inserted(t, full, 2*k-1, 1, slices.Concat(turns(0, k, k-1, k+1), full[3:]))
	inserted(t, full, k, k, slices.Concat(runs(0, 3*k), full[3:]))
	inserted(t, full, 0, k, slices.Concat(runs(1, 2*k), full[2:]))
	inserted(t, full, end-k, k, slices.Concat(full[:n-2], runs(0, 2*k)))
	inserted(t, full, 0, end, repeated(n, k, 1, 0))
	inserted(t, full, k, end-k, slices.Concat(runs(0, 2*k), repeated(n-2, k, 1, 0)))
	// With one run less, one more is left; with two runs less, two.
	less := full[:n-1]
	inserted(t, less, 0, 1, slices.Concat(turns(1, 1, k-1), less[1:]))
	inserted(t, less, end-k-1, 1, slices.Concat(less[:n-2], turns(0, k-1, 1)))
	refused(t, less, k+1, 1, api.ErrLimit)
	refused(t, less, 1, end-k-2, api.ErrLimit)
	inserted(t, full[:n-2], k+1, 1, slices.Concat(full[:1], turns(1, 1, 1, k-2), full[2:n-2]))
	// The runs are those of the clean result.
	inserted(t, repeated(n, k, 1), 1, 1, turns(1, 1, 1, end-2))
	inserted(t, repeated(n, k, 0, 0, 1), 0, 1, slices.Concat(turns(1, 1, 2*k-1), cleaned(repeated(n, k, 0, 0, 1))[1:]))
	inserted(t, slices.Concat(full[:n-2], runs(1, k, 1, k)), end-1, 1, slices.Concat(full[:n-3], runs(1, 3*k-1, 0, 1)))
}

// P13.4
func TestInsertOutsideOfAWave(t *testing.T) {
	for _, l := range right() {
		n := long(l)
		for _, x := range [][2]int{
			{n, 1}, {n - 1, 2}, {0, n + 1}, {n + 1, 1}, {n, 0}, {0, 0}, {n / 2, 0}, {-1, 1}, {-1, 2}, {-1, n + 1}, {1, n}, {n / 2, n - n/2 + 1}, {n, -1}, {n, -n}, {n + 1, -1}, {1, -1}, {end, 1}, {0, end + 1}, {1, end}, {end + 1, 1},
			{math.MinInt, 1}, {math.MinInt, math.MaxInt}, {math.MinInt, math.MinInt}, {math.MaxInt, 1}, {math.MaxInt, math.MaxInt}, {1, math.MaxInt}, {2, math.MaxInt - 1}, {0, math.MaxInt}, {0, math.MinInt}, {n, math.MaxInt}, {math.MaxInt, 2}, {math.MaxInt, math.MinInt}, {-1, math.MaxInt}, {-1, math.MinInt},
		} {
			refused(t, l, x[0], x[1], api.ErrRange)
		}
	}
}

// P13.4
func TestInsertIntoWrongWaves(t *testing.T) {
	for _, l := range wrong() {
		for _, x := range [][2]int{{0, 1}, {1, 1}, {0, 5}, {5, 1}, {-1, 1}, {0, 0}, {end, 1}, {0, end + 1}, {math.MinInt, math.MinInt}, {math.MaxInt, math.MaxInt}} {
			refused(t, l, x[0], x[1], api.ErrArg)
		}
	}
}

// P13.6
func TestInsertTwice(t *testing.T) {
	r := rand.New(rand.NewSource(136))
	all := right()
	for range 3000 {
		l := random(r, 60)
		all = append(all, l, stretched(l, 1+r.Intn(end/600)))
	}
	for _, l := range all {
		n := long(l)
		for range 4 {
			if n == 0 {
				break
			}
			at := r.Intn(n)
			ticks := 1 + r.Intn(n-at)>>r.Intn(40)
			once, e := glitch.Insert(l, at, ticks)
			if e == api.ErrLimit && len(l) > api.MaxRuns-2 {
				continue
			}
			what := fmt.Sprint(brief(l), " from ", at, " for ", ticks)
			if e != api.OK || long(once) != n || slices.Equal(once, cleaned(l)) {
				t.Errorf("%s: %s %d", what, brief(once), e)
			}
			inserted(t, once, at, ticks, cleaned(l))
		}
	}
}

// edgesOf returns the ticks at which the runs of a clean wave begin, without the first one.
func edgesOf(l []api.Run) []int {
	var edges []int
	for i := range l {
		if i > 0 {
			edges = append(edges, long(l[:i]))
		}
	}
	return edges
}

// far reports whether all edges are at a distance of at least least ticks from the bounds.
func far(edges []int, from, to, least int) bool {
	for _, edge := range edges {
		if edge > from-least && edge < to+least {
			return false
		}
	}
	return true
}

// P13.6
func TestFilterRemovesAnInsertedPulse(t *testing.T) {
	r := rand.New(rand.NewSource(1360))
	removed := 0
	for range 3000 {
		least := 2 + r.Intn(6)
		l := glitch.Filter(random(r, 60), least)
		edges, n := edgesOf(l), long(l)
		for at := range n {
			ticks := 1 + r.Intn(least-1)
			if at == 0 || at+ticks >= n || !far(edges, at, at+ticks, least) {
				continue
			}
			spoilt, e := glitch.Insert(l, at, ticks)
			what := fmt.Sprint(brief(l), " from ", at, " for ", ticks, ", least ", least)
			if count := glitch.Count(spoilt, least); e != api.OK || count != 1 {
				t.Errorf("%s: %d short pulses, error %d", what, count, e)
			}
			equal(t, what, glitch.Filter(spoilt, least), l)
			removed++
		}
	}
	if removed < 1000 {
		t.Errorf("%d pulses", removed)
	}
}

// P13.6
func TestFilterKeepsAPulseAtTheBeginningOrTheEnd(t *testing.T) {
	for _, x := range []struct{ at, ticks int }{{0, 2}, {18, 2}} {
		l, e := glitch.Insert(runs(0, 20), x.at, x.ticks)
		if e != api.OK || len(l) != 2 || glitch.Count(l, 3) != 0 {
			t.Error(x, l, e)
		}
		equal(t, fmt.Sprint(x), glitch.Filter(l, 3), l)
	}
}
