package remap_test

import (
	"math"
	"math/rand"
	"slices"
	"testing"

	"signalbench/api"
	"signalbench/capture"
	"signalbench/ratio"
	"signalbench/remap"
)

// resized is an independent reading of Scale for a capture of which each tick is k ticks long.
func resized(c api.Capture, k int, r api.Ratio) api.Capture {
	l := drawn(c, k)
	for i := range l {
		l[i].ticks = times(r, (i+1)*k) - times(r, i*k)
	}
	return read(c.Names, l)
}

// scales reports an error unless Scale is what the independent reading is, or an error if the capture would be too long.
func scales(t *testing.T, c api.Capture, k int, r api.Ratio) {
	t.Helper()
	longer := stretched(c, k)
	what := text(longer) + " " + ratio.Text(r)
	d, e := remap.Scale(longer, r)
	if times(r, capture.Long(longer)) > end {
		fails(t, what, d, e, api.ErrOverflow)
	} else {
		gives(t, what, d, e, resized(c, k, r))
	}
}

// factors returns valid ratios that are greater than 0: all small ones, and some others.
func factors() []api.Ratio {
	const most = api.MaxPart
	l := []api.Ratio{
		{Num: most, Den: 1}, {Num: 1, Den: most}, {Num: most, Den: most - 1}, {Num: most - 1, Den: most}, {Num: most - 1, Den: 8},
		{Num: 100, Den: 999}, {Num: 355, Den: 113}, {Num: 434, Den: 5},
	}
	for num := 1; num <= 7; num++ {
		for den := 1; den <= 7; den++ {
			if r := (api.Ratio{Num: num, Den: den}); ratio.Valid(r) {
				l = append(l, r)
			}
		}
	}
	return l
}

// P12.5
func TestScale(t *testing.T) {
	for _, x := range []struct {
		c    api.Capture
		r    api.Ratio
		want api.Capture
	}{
		{of("a", 1, 1, 0, 1, 1, 1), api.Ratio{Num: 1, Den: 2}, of("a", 0, 1)},
		{of("a", 1, 1, 0, 1, 1, 1, 1, 1), api.Ratio{Num: 1, Den: 2}, of("a", 0, 1, 1, 1)},
		{of("a", 1, 2, 0, 3), api.Ratio{Num: 4, Den: 1}, of("a", 1, 8, 0, 12)},
		{of("a", 1, 2, 0, 3, 1, 2), api.Ratio{Num: 3, Den: 2}, of("a", 1, 3, 0, 4, 1, 3)},
		{of("b a", 2, 5, 1, 5), api.Ratio{Num: 1, Den: 11}, of("b a")},
		{of("b a", 2, 5, 1, 6), api.Ratio{Num: 1, Den: 11}, of("b a", 1, 1)},
		{of("a", 1, 3, 0, 1, 1, 3), api.Ratio{Num: 1, Den: 3}, of("a", 1, 2)},
		{of("a"), api.Ratio{Num: 3, Den: 1}, of("a")},
		{of("b a"), api.Ratio{Num: 1, Den: 3}, of("b a")},
	} {
		c, e := remap.Scale(x.c, x.r)
		gives(t, text(x.c)+" "+ratio.Text(x.r), c, e, x.want)
	}
}

// P12.5
func TestScaleOfAllShortCaptures(t *testing.T) {
	for _, c := range shortOnes() {
		for _, r := range factors() {
			for _, k := range []int{1, 3, 101, (1 << 32) / 5} {
				scales(t, c, k, r)
			}
		}
	}
}

// P12.5
func TestScaleByAnyRatio(t *testing.T) {
	r := rand.New(rand.NewSource(125))
	for range 5000 {
		f, e := ratio.Make(1+r.Intn(1<<(1+r.Intn(30))), 1+r.Intn(1<<(1+r.Intn(30))))
		if e != api.OK {
			t.Fatal(e)
		}
		scales(t, random(r, 1+r.Intn(16), 60), 1+r.Intn((1<<32)/60)>>r.Intn(30), f)
	}
}

// P12.5
func TestScaleOverflow(t *testing.T) {
	const most, long = api.MaxPart, 1 << 32
	for _, x := range []struct {
		long     int
		r        api.Ratio
		want     int
		overflow bool
	}{
		{long, api.Ratio{Num: 256, Den: 1}, end, false},
		{long, api.Ratio{Num: 257, Den: 1}, 0, true},
		{long, api.Ratio{Num: most, Den: 1}, 0, true},
		{long - 1, api.Ratio{Num: 257, Den: 1}, 0, true},
		{long, api.Ratio{Num: 1, Den: 1}, long, false},
		{long, api.Ratio{Num: 1, Den: most}, 4, false},
		{long - 1, api.Ratio{Num: 1, Den: most}, 3, false},
		{long + 1, api.Ratio{Num: 1, Den: most}, 0, true},
		{long + 1, api.Ratio{Num: 1, Den: 1}, 0, true},
		{end, api.Ratio{Num: 1, Den: 1}, 0, true},
		{end, api.Ratio{Num: 1, Den: most}, 0, true},
		{end, api.Ratio{Num: most, Den: 1}, 0, true},
		{1024, api.Ratio{Num: most, Den: 1}, end, false},
		{1025, api.Ratio{Num: most, Den: 1}, 0, true},
		{1025, api.Ratio{Num: most - 1<<20, Den: 1}, 1025 * (most - 1<<20), false},
		// The exact lengths of the first two are MaxTime and a third of a tick, and one tick more.
		{10243, api.Ratio{Num: 322028203, Den: 3}, end, false},
		{3316, api.Ratio{Num: 994733077, Den: 3}, 0, true},
		{10244, api.Ratio{Num: 322028203, Den: 3}, 0, true},
		{3315, api.Ratio{Num: 994733077, Den: 3}, 1099180050085, false},
	} {
		for _, c := range []api.Capture{of("a", 1, x.long), of("b a", 3, x.long-1, 3, 1)} {
			d, e := remap.Scale(c, x.r)
			if x.overflow {
				fails(t, text(c)+" "+ratio.Text(x.r), d, e, api.ErrOverflow)
			} else {
				gives(t, text(c)+" "+ratio.Text(x.r), d, e, api.Capture{Names: c.Names, Runs: runs(c.Runs[0].Level, x.want)})
			}
		}
	}
}

// P12.5
func TestScaleByWrongRatios(t *testing.T) {
	const over = api.MaxPart + 1
	for _, c := range []api.Capture{of("a"), of("a", 1, 3, 0, 2), of("a", 1, 1<<32), of("a", 1, 1<<32+1), of("b a", 3, end-1, 0, 1)} {
		for _, r := range []api.Ratio{
			{}, {Num: 0, Den: 1}, {Num: -1, Den: 1}, {Num: -1, Den: 2}, {Num: -api.MaxPart, Den: 1}, {Num: 1, Den: 0}, {Num: 1, Den: -1}, {Num: -1, Den: -1}, {Num: 2, Den: 2}, {Num: 6, Den: 4}, {Num: 0, Den: 2},
			{Num: over, Den: 1}, {Num: 1, Den: over}, {Num: -over, Den: 1}, {Num: math.MinInt, Den: 1}, {Num: math.MaxInt, Den: 1}, {Num: 1, Den: math.MaxInt}, {Num: 1, Den: math.MinInt}, {Num: math.MinInt, Den: math.MinInt},
		} {
			d, e := remap.Scale(c, r)
			fails(t, text(c), d, e, api.ErrArg)
		}
	}
}

// P12.5
func TestScaleOfWrongCaptures(t *testing.T) {
	for _, x := range wrong() {
		for _, r := range []api.Ratio{{Num: 1, Den: 1}, {Num: 1, Den: 2}, {Num: api.MaxPart, Den: 1}, {}, {Num: -1, Den: 1}} {
			c, e := remap.Scale(x.c, r)
			fails(t, text(x.c), c, e, x.e)
		}
	}
}

// P12.5
func TestScaleOfManyRuns(t *testing.T) {
	const n = api.MaxRuns
	for _, x := range []struct {
		c    api.Capture
		r    api.Ratio
		want []api.Run
	}{
		{with(1, repeated(n, 1, 0, 1)), api.Ratio{Num: 1, Den: 2}, runs(1, n/2)},
		{with(1, repeated(n, 1, 0, 1)), api.Ratio{Num: 5, Den: 1}, repeated(n, 5, 0, 1)},
		{with(2, repeated(n, 1, 0, 1, 2)), api.Ratio{Num: 1, Den: 2}, repeated(n/2, 1, 1, 0, 2)},
		{with(2, repeated(n, 2, 0, 1, 2, 3)), api.Ratio{Num: 3, Den: 2}, repeated(n, 3, 0, 1, 2, 3)},
		{with(1, repeated(n, 1<<14, 1, 0)), api.Ratio{Num: 256, Den: 1}, repeated(n, 1<<22, 1, 0)},
		{with(16, repeated(n, 1, 9)), api.Ratio{Num: 1, Den: n}, runs(9, 1)},
		{with(1, repeated(n, 1, 0, 1)), api.Ratio{Num: 3, Den: 2}, slices.Repeat(runs(0, 1, 1, 2), n/2)},
	} {
		c, e := remap.Scale(x.c, x.r)
		gives(t, text(x.c)+" "+ratio.Text(x.r), c, e, api.Capture{Names: x.c.Names, Runs: x.want})
	}
}

// P12.8
func TestScaleByOne(t *testing.T) {
	for _, c := range append(shortOnes(), right()...) {
		d, e := remap.Scale(c, api.Ratio{Num: 1, Den: 1})
		if capture.Long(c) > 1<<32 {
			fails(t, text(c), d, e, api.ErrOverflow)
			continue
		}
		gives(t, text(c), d, e, cleaned(c))
		if !capture.Same(c, d) {
			t.Error(text(c), text(d))
		}
	}
}
