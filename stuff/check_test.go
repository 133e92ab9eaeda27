package stuff_test

import (
	"math"
	"testing"

	"signalbench/api"
	"signalbench/stuff"
)

// wrong returns configurations that are not valid.
func wrong() []api.Stuff {
	var l []api.Stuff
	for _, n := range []int{math.MinInt, -1 << 32, -5, -2, -1, 0, 1, 17, 18, 32, 64, 256 + 5, 1<<32 + 5, math.MaxInt} {
		l = append(l, ones(n), equal(n))
	}
	return l
}

// P19.1
func TestCheck(t *testing.T) {
	for _, c := range configurations(most) {
		if e := stuff.Check(c); e != api.OK {
			t.Errorf("%v: error %d", c, e)
		}
	}
	for _, c := range wrong() {
		if e := stuff.Check(c); e != api.ErrRange {
			t.Errorf("%v: error %d", c, e)
		}
	}
}

// P19.1, D1: what the functions return for a configuration that is not valid.
func TestWrongConfigurations(t *testing.T) {
	given := api.State{Phase: 1, At: 8, From: 20, Count: 4, Acc: 5, Aux: 6, Prev: 1, Data: "x"}
	l := drawn("00111ba00000", 8)
	many := make([]api.Item, api.MaxItems+1)
	for _, c := range wrong() {
		if s := stuff.Start(c); s != (api.State{}) {
			t.Errorf("%v: start %v", c, s)
		}
		for _, before := range []api.State{{}, given, {Count: c.Run}} {
			for _, e := range l {
				if s, events := stuff.Step(c, before, e); s != before || len(events) > 0 {
					t.Errorf("%v: step %v %v", c, s, events)
				}
			}
			if events := stuff.End(c, before); len(events) > 0 {
				t.Errorf("%v: end %v", c, events)
			}
		}
		decodes(t, c, l, nil)
		for _, items := range [][]api.Item{nil, {{Data: "101"}}, {{Gap: -1}}, {{Data: "2"}}, {{Fault: api.FtStuff}}, many} {
			refuses(t, c, items, api.ErrRange)
		}
	}
}
