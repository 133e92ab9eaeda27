package decoder_test

import (
	"slices"
	"strings"
	"testing"

	"signalbench/api"
	"signalbench/decoder"
	"signalbench/decodertest"
)

// bit returns an event of a bit.
func bit(value, from, to int) api.Event {
	return api.Event{Kind: api.EvBit, From: from, To: to, Value: value}
}

// step emits an event that has the configuration, the state and the given event as numbers, and another one for odd values.
func step(c int, s api.State, e api.Event) (api.State, []api.Event) {
	l := []api.Event{{Kind: c, From: s.Count, To: e.To}}
	if e.Value == 1 {
		l = append(l, e)
	}
	s.Count++
	return s, l
}

// finish emits an event that has the configuration and the state as numbers.
func finish(c int, s api.State) []api.Event {
	return []api.Event{{Kind: c, From: s.Count, Data: "end"}}
}

// D2
func TestDecode(t *testing.T) {
	l := []api.Event{bit(0, 0, 5), bit(1, 5, 7), bit(0, 7, 8)}
	want := []api.Event{{Kind: 9, From: 4, To: 5}, {Kind: 9, From: 5, To: 7}, bit(1, 5, 7), {Kind: 9, From: 6, To: 8}, {Kind: 9, From: 7, Data: "end"}}
	if got := decoder.Decode(9, api.State{Count: 4}, l, step, finish); !slices.Equal(got, want) {
		t.Errorf("%v, not %v", got, want)
	}
	if got := decoder.Decode(9, api.State{Count: 7}, nil, step, finish); !slices.Equal(got, want[4:]) {
		t.Errorf("%v, not %v", got, want[4:])
	}
}

// D4
func TestAcceptsBit(t *testing.T) {
	for e, want := range map[api.Event]bool{
		bit(0, 0, 4): true, bit(1, 0, 4): true, bit(1, 5, 5): true, {Kind: api.EvBit, Aux: 3, Data: "x", Fault: api.FtAborted}: true,
		bit(2, 0, 4): false, bit(-1, 0, 4): false, bit(0, 5, 4): false, bit(0, -1, 4): false, bit(0, 0, api.MaxTime+1): false,
		{}: false, {Kind: api.EvLevel, To: 4}: false, {Kind: api.EvByte, To: 4}: false, {Kind: api.EvMark, To: 4, Value: 1}: false, {Kind: api.EvBit, Fault: 13}: false,
	} {
		if got := decoder.AcceptsBit(0, e); got != want {
			t.Errorf("%v: %v", e, got)
		}
	}
	for from, want := range map[int]bool{0: false, 6: false, 7: true, 8: true, 9: true} {
		if got := decoder.AcceptsBit(7, bit(1, from, 9)); got != want {
			t.Errorf("from %d: %v", from, got)
		}
	}
}

// D6
func TestAborted(t *testing.T) {
	for to, want := range map[int]int{0: 5, 4: 5, 5: 5, 6: 6, api.MaxTime: api.MaxTime} {
		if got := decoder.Aborted(api.EvFrame, 5, to); got != (api.Event{Kind: api.EvFrame, From: 5, To: want, Fault: api.FtAborted}) {
			t.Errorf("to %d: %v", to, got)
		}
	}
}

// D9
func TestCheckItems(t *testing.T) {
	check := func(item api.Item) api.Errno { return api.Errno(item.Value) }
	long := strings.Repeat("x", api.MaxData+1)
	many := make([]api.Item, api.MaxItems+1)
	many[0].Gap = -1
	for _, c := range []struct {
		l    []api.Item
		gap  int
		want api.Errno
	}{
		{nil, 0, api.OK},
		{make([]api.Item, api.MaxItems), 0, api.OK},
		{many, 0, api.ErrLimit},
		{many[:api.MaxItems], 0, api.ErrArg},
		{[]api.Item{{Gap: 5, Data: long[1:]}}, 5, api.OK},
		{[]api.Item{{Gap: 6}}, 5, api.ErrArg},
		{[]api.Item{{Gap: 6, Data: long, Value: 10}}, 5, api.ErrArg},
		{[]api.Item{{Gap: -1, Data: long, Value: 10}}, 5, api.ErrArg},
		{[]api.Item{{Data: long, Value: 10}}, 5, api.ErrLimit},
		{[]api.Item{{Data: long[1:], Value: 10}}, 5, api.ErrType},
		{[]api.Item{{}, {Value: 10}, {Gap: -1}}, 5, api.ErrType},
		{[]api.Item{{}, {Gap: -1}, {Value: 10}}, 5, api.ErrArg},
	} {
		if e := decoder.CheckItems(c.l, c.gap, check); e != c.want {
			t.Errorf("%.200v: error %d, not %d", c.l, e, c.want)
		}
	}
}

// D9: the items are checked once each, one after the other, up to the first error.
func TestCheckedItems(t *testing.T) {
	for _, want := range [][]int{{0, 1, 2, 3}, {0, 1, 3}, {3}, {0, 0, 1, 3}} {
		var l []api.Item
		for _, n := range want {
			l = append(l, api.Item{Value: n})
		}
		var got []int
		e := decoder.CheckItems(append(l, api.Item{Value: 5}, api.Item{Gap: -1}), 0, func(item api.Item) api.Errno {
			got = append(got, item.Value)
			return api.Errno(item.Value / 3)
		})
		if !slices.Equal(got, want) || e != api.ErrArg {
			t.Errorf("%v, not %v, error %d", got, want, e)
		}
	}
}

// D9
func TestCheckBits(t *testing.T) {
	for item, want := range map[api.Item]api.Errno{
		{}: api.OK, {Data: "0110"}: api.OK, {Gap: -1}: api.OK,
		{Data: "2"}: api.ErrSyntax, {Data: "x", Value: 1, Aux: 1, Fault: 1}: api.ErrSyntax,
		{Value: 1}: api.ErrArg, {Aux: -1}: api.ErrArg, {Data: "1", Fault: api.FtCode}: api.ErrArg,
	} {
		if e := decoder.CheckBits(item); e != want {
			t.Errorf("%v: error %d, not %d", item, e, want)
		}
	}
}

// D9
func TestCheckPlain(t *testing.T) {
	for _, item := range []api.Item{{}, {Gap: -1}, {Gap: 3, Data: "x"}} {
		if e := decoder.CheckPlain(item); e != api.OK {
			t.Errorf("%v: error %d", item, e)
		}
		for _, other := range decodertest.OtherFields(item) {
			if e := decoder.CheckPlain(other); e != api.ErrArg {
				t.Errorf("%v: error %d", other, e)
			}
		}
	}
}
