package sampler_test

import (
	"math"
	"testing"

	"signalbench/api"
	"signalbench/sampler"
)

// wrongClocks returns clocks that are not valid, and their errors.
func wrongClocks() map[api.Clock]api.Errno {
	return map[api.Clock]api.Errno{
		// Ratios that are not valid, whatever their value is.
		clock(0, 0): api.ErrArg, clock(8, 0): api.ErrArg, clock(8, 2): api.ErrArg, clock(18, 4): api.ErrArg, clock(2, 2): api.ErrArg, clock(0, 2): api.ErrArg,
		clock(8, -1): api.ErrArg, clock(-8, -1): api.ErrArg, clock(-9, -2): api.ErrArg, clock(-8, 2): api.ErrArg,
		clock(1<<30+1, 1<<20): api.ErrArg, clock(1<<30+1, 1): api.ErrArg, clock(-1<<30-1, 1): api.ErrArg, clock(1<<33, 1<<30+1): api.ErrArg,
		clock(math.MaxInt, 1<<44): api.ErrArg, clock(math.MinInt, math.MinInt): api.ErrArg, clock(math.MinInt, 1): api.ErrArg, clock(math.MaxInt, math.MaxInt-1): api.ErrArg, clock(1<<62, 1<<60-1): api.ErrArg,
		// Valid ratios that are less than 4 or greater than 2^20.
		clock(0, 1): api.ErrRange, clock(1, 1): api.ErrRange, clock(3, 1): api.ErrRange, clock(7, 2): api.ErrRange, clock(1, 1<<30): api.ErrRange, clock(1<<30-1, 1<<30): api.ErrRange,
		clock(-8, 1): api.ErrRange, clock(-9, 2): api.ErrRange, clock(-1<<30, 1): api.ErrRange,
		clock(4*(1<<28)-1, 1<<28): api.ErrRange, clock(4*(1<<28-1)-1, 1<<28-1): api.ErrRange,
		clock(1<<20+1, 1): api.ErrRange, clock(2<<20+1, 2): api.ErrRange, clock(1023<<20+1, 1023): api.ErrRange, clock(1<<30, 1): api.ErrRange, clock(1<<30, 1023): api.ErrRange, clock(1<<30-1, 1): api.ErrRange,
	}
}

// P15.1
func TestCheck(t *testing.T) {
	right := append(clocks(), clock(4*(1<<28-1)+1, 1<<28-1), clock(1023<<20-1, 1023), clock(1<<20-1, 1), clock(2<<20-1, 2), clock(17, 4), clock(1<<19, 1))
	for _, c := range right {
		if e := sampler.Check(c); e != api.OK {
			t.Errorf("%v: error %d", c.T, e)
		}
	}
	for c, want := range wrongClocks() {
		if e := sampler.Check(c); e != want {
			t.Errorf("%v: error %d, not %d", c.T, e, want)
		}
	}
}

// P15.1, D1: what the functions return for a configuration that is not valid.
func TestWrongClocks(t *testing.T) {
	given := api.State{Phase: 1, At: 8, From: 3, Count: 4, Acc: 5, Aux: 6, Prev: 1, Data: "x"}
	l := levels(8, 1, 8, 0, 8)
	wrong := make([]api.Item, api.MaxItems+1)
	wrong[0].Gap = 1
	for c, want := range wrongClocks() {
		if s := sampler.Start(c); s != (api.State{}) {
			t.Errorf("%v: start %v", c.T, s)
		}
		for _, before := range []api.State{{}, given} {
			if s, bits := sampler.Step(c, before, l[0]); s != before || len(bits) > 0 {
				t.Errorf("%v: step %v %v", c.T, s, bits)
			}
			if bits := sampler.End(c, before); len(bits) > 0 {
				t.Errorf("%v: end %v", c.T, bits)
			}
		}
		if bits := sampler.Decode(c, l); len(bits) > 0 {
			t.Errorf("%v: %v", c.T, bits)
		}
		for _, items := range [][]api.Item{nil, {{Data: "101"}}, {{Gap: 1}}, {{Data: "2"}}, wrong} {
			if runs, e := sampler.Encode(c, items); len(runs) > 0 || e != want {
				t.Errorf("%v: %v, error %d, not %d", c.T, runs, e, want)
			}
			if bits, e := sampler.Expect(c, items); len(bits) > 0 || e != want {
				t.Errorf("%v: %v, error %d, not %d", c.T, bits, e, want)
			}
		}
	}
}
