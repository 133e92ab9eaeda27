package remap_test

import (
	"math"
	"math/rand"
	"slices"
	"testing"

	"signalbench/api"
	"signalbench/capture"
	"signalbench/remap"
)

// later is an independent reading of Delay for a capture of which each tick is k ticks long.
func later(c api.Capture, k, by int) api.Capture {
	l := drawn(c, k)
	if by > 0 {
		l = slices.Insert(l, 0, cell{l[0].levels, by})
	}
	return read(c.Names, l)
}

// delays reports an error unless Delay is what the independent reading is.
func delays(t *testing.T, c api.Capture, k, by int) {
	t.Helper()
	longer := stretched(c, k)
	d, e := remap.Delay(longer, by)
	gives(t, text(longer), d, e, later(c, k, by))
}

// P12.4
func TestDelay(t *testing.T) {
	for _, x := range []struct {
		c    api.Capture
		by   int
		want api.Capture
	}{
		{of("a", 1, 2, 0, 3), 4, of("a", 1, 6, 0, 3)}, {of("b a", 2, 1, 2, 1, 3, 1, 3, 1), 1, of("b a", 2, 3, 3, 2)}, {of("a", 1, 2, 1, 3), 0, of("a", 1, 5)}, {of("a", 0, 1), end - 1, of("a", 0, end)},
		{of("a"), 0, of("a")}, {of("b a c"), 0, of("b a c")}, {of("a", 0, end), 0, of("a", 0, end)},
		{of("a", 1, 1, 0, end-2), 1, of("a", 1, 2, 0, end-2)}, {of("a", 1, 1, 0, 1), end - 2, of("a", 1, end-1, 0, 1)},
	} {
		c, e := remap.Delay(x.c, x.by)
		gives(t, text(x.c), c, e, x.want)
	}
}

// P12.4
func TestDelayOfAllShortCaptures(t *testing.T) {
	for _, c := range shortOnes() {
		for _, k := range []int{1, 10, end / 5, end / 6} {
			if len(c.Runs) == 0 {
				delays(t, c, k, 0)
				continue
			}
			for _, by := range []int{0, 1, 2, k, 2*k + 1, 1 << 32, end - capture.Long(c)*k - 1, end - capture.Long(c)*k} {
				if 0 <= by && by <= end-capture.Long(c)*k {
					delays(t, c, k, by)
				}
			}
		}
	}
}

// P12.4
func TestDelayOutOfRange(t *testing.T) {
	for _, c := range right() {
		rest := end - capture.Long(c)
		for _, by := range []int{-1, -2, -end, -capture.Long(c) - 1, math.MinInt, math.MinInt + 1, rest + 1, rest + 2, end + 1, math.MaxInt - 1, math.MaxInt} {
			d, e := remap.Delay(c, by)
			fails(t, text(c), d, e, api.ErrRange)
		}
		for _, by := range []int{0, rest} {
			d, e := remap.Delay(c, by)
			if len(c.Runs) == 0 && by > 0 {
				fails(t, text(c), d, e, api.ErrRange)
				continue
			}
			want := cleaned(c)
			if by > 0 {
				want.Runs[0].Ticks += by
			}
			gives(t, text(c), d, e, want)
		}
	}
	for _, by := range []int{-1, 1, 2, end - 1, end} {
		for _, c := range []api.Capture{of("a"), with(16, nil), {Names: []string{"a"}, Runs: []api.Run{}}} {
			d, e := remap.Delay(c, by)
			fails(t, text(c), d, e, api.ErrRange)
		}
	}
}

// P12.4
func TestDelayOfWrongCaptures(t *testing.T) {
	for _, x := range wrong() {
		for _, by := range []int{0, 1, -1, end, end + 1} {
			c, e := remap.Delay(x.c, by)
			fails(t, text(x.c), c, e, x.e)
		}
	}
}

// P12.7
func TestDelayTwice(t *testing.T) {
	r := rand.New(rand.NewSource(127))
	for range 2000 {
		c := random(r, 1+r.Intn(16), 40)
		m, n := 0, 0
		if len(c.Runs) > 0 {
			m = r.Intn(end-capture.Long(c)+1) >> r.Intn(40)
			n = r.Intn(end-capture.Long(c)-m+1) >> r.Intn(40)
		}
		first, e := remap.Delay(c, m)
		gives(t, text(c), first, e, later(c, 1, m))
		second, e := remap.Delay(first, n)
		gives(t, text(c), second, e, later(c, 1, m+n))
		both, e := remap.Delay(c, m+n)
		gives(t, text(c), both, e, second)
		if rest := end - capture.Long(c) - m; len(c.Runs) > 0 {
			d, e := remap.Delay(first, rest+1)
			fails(t, text(first), d, e, api.ErrRange)
		}
	}
}
