package manchester_test

import (
	"testing"

	"signalbench/api"
	"signalbench/decodertest"
	"signalbench/manchester"
)

// wrong returns configurations that are not valid, and their errors.
func wrong() map[api.Manchester]api.Errno {
	all := map[api.Manchester]api.Errno{}
	for t, e := range decodertest.WrongBitTimes() {
		all[api.Manchester{T: t}] = e
		all[api.Manchester{T: t, Ieee: true}] = e
	}
	return all
}

// P17.1
func TestCheck(t *testing.T) {
	for _, c := range append(codes(), ieee(4*(1<<28-1)+1, 1<<28-1), thomas(1023<<20-1, 1023), ieee(1<<20-1, 1), thomas(2<<20-1, 2)) {
		if e := manchester.Check(c); e != api.OK {
			t.Errorf("%v: error %d", c, e)
		}
	}
	for c, want := range wrong() {
		if e := manchester.Check(c); e != want {
			t.Errorf("%v: error %d, not %d", c, e, want)
		}
	}
}

// P17.1, D1: what the functions return for a configuration that is not valid.
func TestWrongConfigurations(t *testing.T) {
	given := api.State{Phase: 1, At: 24, From: 20, Count: 4, Acc: 5, Aux: 6, Prev: 1, Data: "x"}
	l := levels(0, 0, 20, 1, 4, 0, 4, 1, 8, 0, 4)
	many := make([]api.Item, api.MaxItems+1)
	for c, want := range wrong() {
		if s := manchester.Start(c); s != (api.State{}) {
			t.Errorf("%v: start %v", c, s)
		}
		for _, before := range []api.State{{}, given} {
			for _, e := range l {
				if s, bits := manchester.Step(c, before, e); s != before || len(bits) > 0 {
					t.Errorf("%v: step %v %v", c, s, bits)
				}
			}
			if bits := manchester.End(c, before); len(bits) > 0 {
				t.Errorf("%v: end %v", c, bits)
			}
		}
		decodes(t, c, l, nil)
		for _, items := range [][]api.Item{nil, {{Data: "101"}}, {{Gap: -1}}, {{Data: "2"}}, {{Fault: api.FtCode}}, many} {
			refuses(t, c, items, want)
		}
	}
}
