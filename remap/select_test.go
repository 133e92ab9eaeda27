package remap_test

import (
	"fmt"
	"math/rand"
	"slices"
	"strings"
	"testing"

	"signalbench/api"
	"signalbench/remap"
)

// noChannels are strings that are names of no channel, or no names at all.
var noChannels = []string{"x", "z9", "", "A", "aA", "1", "_a", "a b", "a ", "a\n", "a\x00", "ä", "a_long_name_of_17"}

// chosen is an independent reading of Select for a capture of which each tick is k ticks long.
func chosen(c api.Capture, k int, names []string) (api.Capture, api.Errno) {
	if len(names) == 0 {
		return api.Capture{}, api.ErrArg
	}
	var places []int
	for _, name := range names {
		place := slices.Index(c.Names, name)
		if place < 0 {
			return api.Capture{}, api.ErrNotFound
		}
		if slices.Contains(places, place) {
			return api.Capture{}, api.ErrDuplicate
		}
		places = append(places, place)
	}
	var l []cell
	for _, x := range drawn(c, k) {
		levels := ""
		for _, place := range places {
			levels += x.levels[place : place+1]
		}
		l = append(l, cell{levels, x.ticks})
	}
	return read(names, l), api.OK
}

// selects reports an error unless Select is what the independent reading is.
func selects(t *testing.T, c api.Capture, k int, names []string) {
	t.Helper()
	longer := stretched(c, k)
	what := fmt.Sprintf("%s %q", text(longer), names[:min(len(names), 20)])
	got, e := remap.Select(longer, names)
	if want, f := chosen(c, k, names); f == api.OK {
		gives(t, what, got, e, want)
	} else {
		fails(t, what, got, e, f)
	}
}

// orders returns all lists of up to n of these names, with and without equal ones.
func orders(names []string, n int) [][]string {
	all := [][]string{nil}
	for first := 0; n > 0; n-- {
		last := len(all)
		for _, l := range all[first:last] {
			for _, name := range names {
				all = append(all, append(slices.Clone(l), name))
			}
		}
		first = last
	}
	return all
}

// P12.1
func TestSelect(t *testing.T) {
	for _, x := range []struct {
		c     api.Capture
		names string
		want  api.Capture
	}{
		{of("a b", 1, 1, 3, 2), "b a", of("b a", 2, 1, 3, 2)}, {of("a b", 1, 1, 3, 2), "a b", of("a b", 1, 1, 3, 2)}, {of("a b", 1, 1, 3, 2), "a", of("a", 1, 3)}, {of("a b", 1, 1, 3, 2), "b", of("b", 0, 1, 1, 2)},
		{of("a b c"), "c a", of("c a")}, {of("a", 1, 2, 1, 3, 0, 1), "a", of("a", 1, 5, 0, 1)}, {of("a", 0, end), "a", of("a", 0, end)}, {of("a b", 2, 1, 1, end-1), "b a", of("b a", 1, 1, 2, end-1)},
		{of("a_long_name_of16 a_long_name_of17", 1, 3, 2, 4), "a_long_name_of17", of("a_long_name_of17", 0, 3, 1, 4)},
	} {
		c, e := remap.Select(x.c, strings.Fields(x.names))
		gives(t, text(x.c)+" "+x.names, c, e, x.want)
	}
}

// P12.1
func TestSelectFromAllShortCaptures(t *testing.T) {
	for _, c := range shortOnes() {
		for _, names := range orders(c.Names, len(c.Names)) {
			selects(t, c, 1, names)
			selects(t, c, end/5, names)
		}
	}
}

// P12.1
func TestSelectFromManyChannels(t *testing.T) {
	r := rand.New(rand.NewSource(121))
	for range 2000 {
		c := random(r, 1+r.Intn(16), 60)
		var names []string
		for _, i := range r.Perm(len(c.Names))[:1+r.Intn(len(c.Names))] {
			names = append(names, c.Names[i])
		}
		selects(t, c, 1+r.Intn(end/60), names)
	}
	// Each channel is the bit of its number, before and after.
	for i, name := range channels(16) {
		c, e := remap.Select(with(16, runs(0, 3, 1<<i, 4, 0, 2)), []string{name})
		gives(t, name, c, e, of(name, 0, 3, 1, 4, 0, 2))
		backwards := channels(16)
		slices.Reverse(backwards)
		c, e = remap.Select(with(16, runs(0, 3, 1<<i, 4, 0, 2)), backwards)
		gives(t, name, c, e, api.Capture{Names: backwards, Runs: runs(0, 3, 1<<(15-i), 4, 0, 2)})
	}
}

// P12.1
func TestSelectOfWrongNames(t *testing.T) {
	for _, c := range []api.Capture{of("a", 1, 3), of("a b", 1, 3, 2, 4), of("b a c"), of("b x a", 7, 1, 2, 3)} {
		for _, names := range orders([]string{"a", "b", "c", "x", ""}, 4) {
			selects(t, c, 1, names)
		}
		for _, name := range noChannels {
			for _, names := range [][]string{{name}, {"a", name}, {name, "a"}, {name, name}, {"a", "a", name}, {"a", name, "a"}, {"a", name, name}, {name, "a", "a"}} {
				selects(t, c, 1, names)
			}
		}
	}
	c := with(16, runs(1, 3, 1<<15, 4))
	for i := range 16 {
		selects(t, c, 1, append(channels(16), c.Names[i]))
		selects(t, c, 1, append(channels(16), c.Names[i], "x"))
		selects(t, c, 1, append(channels(16), "x", c.Names[i]))
		selects(t, c, 1, slices.Insert(channels(16), i, "x"))
	}
	selects(t, c, 1, slices.Repeat(channels(16), 10000))
	selects(t, c, 1, slices.Repeat([]string{"x"}, 100000))
	selects(t, c, 1, append([]string{"x"}, slices.Repeat([]string{"a"}, 100000)...))
}

// P12.1
func TestSelectFromWrongCaptures(t *testing.T) {
	for _, x := range wrong() {
		for _, names := range [][]string{nil, {"a"}, {"b", "a"}, x.c.Names, {"zz"}, {"a", "a"}, {""}} {
			c, e := remap.Select(x.c, names)
			fails(t, text(x.c), c, e, x.e)
		}
	}
}

// P12.1
func TestSelectFromManyRuns(t *testing.T) {
	const n, k = api.MaxRuns, end / api.MaxRuns
	for _, x := range []struct {
		c     api.Capture
		names string
		want  []api.Run
	}{
		{with(1, repeated(n, k, 0, 1)), "a", repeated(n, k, 0, 1)}, {with(2, repeated(n, k, 0, 3, 2, 1)), "b a", repeated(n, k, 0, 3, 1, 2)}, {with(2, repeated(n, k, 0, 1)), "b", runs(0, end)},
		{with(3, repeated(n, 1, 5)), "c", runs(1, n)}, {with(3, repeated(n, 1, 0, 1, 3, 2)), "b", repeated(n/2, 2, 0, 1)},
		{with(16, repeated(n, k, 0x5555, 0xaaaa)), letters[:31], repeated(n, k, 0x5555, 0xaaaa)},
	} {
		c, e := remap.Select(x.c, strings.Fields(x.names))
		gives(t, text(x.c)+" "+x.names, c, e, api.Capture{Names: strings.Fields(x.names), Runs: x.want})
	}
}
