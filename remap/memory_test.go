package remap_test

import (
	"slices"
	"testing"

	"signalbench/api"
	"signalbench/remap"
)

// call is a call of the package with a capture, and what it returns for the one of TestMemory.
type call struct {
	what string
	do   func(c api.Capture) (api.Capture, api.Errno)
	want api.Capture
}

// calls returns a call of each function, and those that have nothing to change.
func calls() []call {
	return []call{
		{"Select", func(c api.Capture) (api.Capture, api.Errno) { return remap.Select(c, []string{"b", "a"}) }, of("b a", 2, 5, 1, 4)},
		{"Select of all names", func(c api.Capture) (api.Capture, api.Errno) { return remap.Select(c, c.Names) }, of("a b", 1, 5, 2, 4)},
		{"Rename", func(c api.Capture) (api.Capture, api.Errno) { return remap.Rename(c, "a", "x") }, of("x b", 1, 3, 1, 2, 2, 4)},
		{"Rename to itself", func(c api.Capture) (api.Capture, api.Errno) { return remap.Rename(c, "a", "a") }, of("a b", 1, 3, 1, 2, 2, 4)},
		{"Merge", func(c api.Capture) (api.Capture, api.Errno) { return remap.Merge(c, of("x", 1, 20)) }, of("a b x", 5, 5, 6, 15)},
		{"Merge behind a longer one", func(c api.Capture) (api.Capture, api.Errno) { return remap.Merge(of("x", 1, 20), c) }, of("x a b", 3, 5, 5, 15)},
		{"Merge with nothing", func(c api.Capture) (api.Capture, api.Errno) { return remap.Merge(c, of("x")) }, of("a b x", 1, 5, 2, 4)},
		{"Delay", func(c api.Capture) (api.Capture, api.Errno) { return remap.Delay(c, 9) }, of("a b", 1, 14, 2, 4)},
		{"Delay by 0", func(c api.Capture) (api.Capture, api.Errno) { return remap.Delay(c, 0) }, of("a b", 1, 5, 2, 4)},
		{"Scale", func(c api.Capture) (api.Capture, api.Errno) { return remap.Scale(c, api.Ratio{Num: 1, Den: 4}) }, of("a b", 1, 1, 2, 1)},
		{"Scale by 1", func(c api.Capture) (api.Capture, api.Errno) { return remap.Scale(c, api.Ratio{Num: 1, Den: 1}) }, of("a b", 1, 5, 2, 4)},
	}
}

// R2: arguments stay as they are, also behind their ends, and a result is new memory.
func TestMemory(t *testing.T) {
	for _, x := range calls() {
		names, l := channels(4), runs(1, 3, 1, 2, 2, 4, 7, 7, 7, 7)
		c := api.Capture{Names: names[:2], Runs: l[:3]}
		first, e := x.do(c)
		gives(t, x.what, first, e, x.want)
		for i := range first.Names {
			first.Names[i] = "changed"
		}
		for i := range first.Runs {
			first.Runs[i] = api.Run{Level: 99, Ticks: 99}
		}
		if !slices.Equal(names, channels(4)) || !slices.Equal(l, runs(1, 3, 1, 2, 2, 4, 7, 7, 7, 7)) {
			t.Error(x.what, names, l)
		}
		second, e := x.do(c)
		gives(t, x.what, second, e, x.want)
	}
}

// R2: a capture without runs, too, gets names that are new.
func TestMemoryWithoutRuns(t *testing.T) {
	for _, x := range calls() {
		c := of("a b")
		d, e := x.do(c)
		// Nothing can be delayed here.
		if x.what == "Delay" {
			fails(t, x.what, d, e, api.ErrRange)
			continue
		}
		if e != api.OK || !slices.Equal(d.Names, x.want.Names) {
			t.Error(x.what, text(d), e)
		}
		for i := range d.Names {
			d.Names[i] = "changed"
		}
		if !slices.Equal(c.Names, channels(2)) {
			t.Error(x.what, c.Names)
		}
	}
}

// R2: the list of selected names stays as it is.
func TestMemoryOfSelectedNames(t *testing.T) {
	names := []string{"b", "a", "c"}
	c, e := remap.Select(of("a b", 1, 3), names[:2])
	gives(t, "Select", c, e, of("b a", 2, 3))
	c.Names[0], c.Names[1] = "y", "z"
	if !slices.Equal(names, []string{"b", "a", "c"}) {
		t.Error(names)
	}
}

// R2: lists that are nil and lists that are empty are the same.
func TestNilAndEmptyLists(t *testing.T) {
	empty := api.Capture{Names: []string{}, Runs: []api.Run{}}
	for _, x := range calls() {
		if x.what == "Delay" {
			continue
		}
		for _, l := range [][]api.Run{nil, {}} {
			c, e := x.do(api.Capture{Names: channels(2), Runs: l})
			if e != api.OK || !slices.Equal(c.Names, x.want.Names) {
				t.Error(x.what, text(c), e)
			}
			c, e = x.do(api.Capture{Runs: l})
			fails(t, x.what, c, e, api.ErrArg)
		}
		c, e := x.do(empty)
		fails(t, x.what, c, e, api.ErrArg)
	}
	for _, names := range [][]string{nil, {}} {
		c, e := remap.Select(of("a", 1, 1), names)
		fails(t, "Select", c, e, api.ErrArg)
	}
}
