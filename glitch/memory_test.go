package glitch_test

import (
	"slices"
	"testing"

	"signalbench/api"
	"signalbench/glitch"
)

// spoil overwrites a list, also behind its end.
func spoil(l []api.Run) {
	l = l[:cap(l)]
	for i := range l {
		l[i] = api.Run{Level: 99, Ticks: 99}
	}
}

// R2: arguments stay as they are, also behind their ends, and a result is new memory.
func TestMemoryOfWaves(t *testing.T) {
	insert := func(at, ticks int) func([]api.Run) []api.Run {
		return func(l []api.Run) []api.Run {
			r, _ := glitch.Insert(l, at, ticks)
			return r
		}
	}
	filter := func(least int) func([]api.Run) []api.Run {
		return func(l []api.Run) []api.Run { return glitch.Filter(l, least) }
	}
	for _, whole := range [][]api.Run{turns(0, 5, 2, 3, 1, 4, 7, 7), runs(0, 5, 0, 1, 1, 1, 0, 3, 0, 2, 1, 1, 1, 4), turns(1, 3, 3, 3, 3, 3, 1)} {
		kept := slices.Clone(whole)
		l := whole[:5]
		for i, do := range []func([]api.Run) []api.Run{filter(0), filter(2), filter(3), filter(9), insert(0, 1), insert(1, 1), insert(5, 2), insert(0, 12), insert(11, 1)} {
			first := do(l)
			want := slices.Clone(first)
			spoil(first)
			if glitch.Count(l, 3); !slices.Equal(whole, kept) {
				t.Fatalf("call %d changes %v to %v", i, kept, whole)
			}
			equal(t, "the second call", do(l), want)
		}
	}
}

// R2: the lists of a capture stay as they are, and those of a result are new.
func TestMemoryOfCaptures(t *testing.T) {
	for _, least := range []int{0, 1, 3, 9} {
		names, l := []string{"a", "b", "c"}, runs(1, 5, 1, 1, 3, 2, 1, 3, 0, 1, 1, 5)
		c := api.Capture{Names: names[:2], Runs: l[:5]}
		first, _ := glitch.All(c, least)
		want := api.Capture{Names: slices.Clone(first.Names), Runs: slices.Clone(first.Runs)}
		spoil(first.Runs)
		for i := range first.Names {
			first.Names[i] = "changed"
		}
		if !slices.Equal(names, []string{"a", "b", "c"}) || !slices.Equal(l, runs(1, 5, 1, 1, 3, 2, 1, 3, 0, 1, 1, 5)) {
			t.Error(least, names, l)
		}
		filters(t, c, least, want)
	}
}

// R2: lists that are nil and lists that are empty are the same.
func TestNilAndEmptyLists(t *testing.T) {
	for _, l := range [][]api.Run{nil, {}} {
		for _, least := range leasts() {
			compared(t, l, least, 0, nil)
			filters(t, api.Capture{Names: []string{"a"}, Runs: l}, least, of("a"))
			refuses(t, api.Capture{Runs: l}, least, api.ErrArg)
			refuses(t, api.Capture{Names: []string{}, Runs: l}, least, api.ErrArg)
		}
		refused(t, l, 0, 0, api.ErrRange)
		refused(t, l, 0, 1, api.ErrRange)
	}
}
