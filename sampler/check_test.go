package sampler_test

import (
	"testing"

	"signalbench/api"
	"signalbench/decodertest"
	"signalbench/sampler"
)

// P15.1
func TestCheck(t *testing.T) {
	right := append(clocks(), clock(4*(1<<28-1)+1, 1<<28-1), clock(1023<<20-1, 1023), clock(1<<20-1, 1), clock(2<<20-1, 2), clock(17, 4), clock(1<<19, 1))
	for _, c := range right {
		if e := sampler.Check(c); e != api.OK {
			t.Errorf("%v: error %d", c.T, e)
		}
	}
	for ratio, want := range decodertest.WrongBitTimes() {
		c := api.Clock{T: ratio}
		if e := sampler.Check(c); e != want {
			t.Errorf("%v: error %d, not %d", c.T, e, want)
		}
	}
}

// P15.1, D1: what the functions return for a configuration that is not valid.
func TestWrongClocks(t *testing.T) {
	given := api.State{Phase: 1, At: 8, From: 3, Count: 4, Acc: 5, Aux: 6, Prev: 1, Data: "x"}
	l := levels(8, 1, 8, 0, 8)
	wrong := make([]api.Item, api.MaxItems+1)
	wrong[0].Gap = 1
	for ratio, want := range decodertest.WrongBitTimes() {
		c := api.Clock{T: ratio}
		if s := sampler.Start(c); s != (api.State{}) {
			t.Errorf("%v: start %v", c.T, s)
		}
		for _, before := range []api.State{{}, given} {
			if s, bits := sampler.Step(c, before, l[0]); s != before || len(bits) > 0 {
				t.Errorf("%v: step %v %v", c.T, s, bits)
			}
			if bits := sampler.End(c, before); len(bits) > 0 {
				t.Errorf("%v: end %v", c.T, bits)
			}
		}
		if bits := sampler.Decode(c, l); len(bits) > 0 {
			t.Errorf("%v: %v", c.T, bits)
		}
		for _, items := range [][]api.Item{nil, {{Data: "101"}}, {{Gap: 1}}, {{Data: "2"}}, wrong} {
			if runs, e := sampler.Encode(c, items); len(runs) > 0 || e != want {
				t.Errorf("%v: %v, error %d, not %d", c.T, runs, e, want)
			}
			if bits, e := sampler.Expect(c, items); len(bits) > 0 || e != want {
				t.Errorf("%v: %v, error %d, not %d", c.T, bits, e, want)
			}
		}
	}
}
