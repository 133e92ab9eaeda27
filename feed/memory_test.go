package feed_test

import (
	"slices"
	"testing"

	"signalbench/api"
	"signalbench/feed"
)

// spoil overwrites a list with an element, also behind its end.
func spoil[T any](l []T, x T) {
	l = l[:cap(l)]
	for i := range l {
		l[i] = x
	}
}

// wrongEvent is an event that no test expects.
var wrongEvent = api.Event{Kind: 99, From: 99, To: 99, Value: 99, Aux: 99, Data: "99", Fault: 99}

// R2: the capture and the names stay as they are, also behind their ends, and the result is new memory.
func TestMemoryOfLevels(t *testing.T) {
	all, l, names := channels(4), runs(1, 3, 1, 2, 2, 4, 7, 7), []string{"b", "a", "x"}
	c := api.Capture{Names: all[:2], Runs: l[:3]}
	for range 2 {
		result, e := feed.Levels(c, names[:2])
		gives(t, "Levels", result, e, events(2, 0, 3, 2, 3, 5, 1, 5, 9))
		spoil(result, wrongEvent)
	}
	equal(t, "the channels", all, channels(4))
	equal(t, "the runs", l, runs(1, 3, 1, 2, 2, 4, 7, 7))
	equal(t, "the names", names, []string{"b", "a", "x"})
}

// R2: the events and the ticks stay as they are, also behind their ends, and a result is new memory.
func TestMemoryOfEvents(t *testing.T) {
	for _, x := range []struct {
		l  []api.Event
		at []int
	}{
		{events(1, 0, 3, 1, 3, 5, 0, 5, 9, 0, 9, 12), []int{7, 4, 4, 1, 0}},
		{events(1, 0, 3, 0, 3, 5, 1, 5, 9, 0, 9, 12), []int{20, 3, 3, 5, 9}},
		{append(events(1, 0, 3, 1, 3, 5), marred(level(1, 5, 9))[3], level(1, 9, 12)), []int{4, 7}},
		{append(events(1, 0, 3), level(1, 3, 9)), nil},
		{events(1, 0, 3), []int{2}},
	} {
		for n := range len(x.l) {
			memory(t, x.l, n, x.at)
		}
	}
}

// memory reports an error if a call with the first n events changes something, or returns something else the second time.
func memory(t *testing.T, l []api.Event, n int, at []int) {
	t.Helper()
	events, ticks := slices.Clone(l), slices.Clone(at)
	for i := range len(at) + 1 {
		for range 2 {
			merged, split := feed.Merge(events[:n]), feed.Split(events[:n], ticks[:i])
			result, _ := feed.Runs(events[:n])
			equal(t, "Merge", merged, joined(l[:n]))
			equal(t, "Split", split, parts(l[:n], at[:i]))
			spoil(merged, wrongEvent)
			spoil(split, wrongEvent)
			spoil(result, api.Run{Level: 99, Ticks: 99})
			equal(t, "the events", events, l)
			equal(t, "the ticks", ticks, at)
		}
	}
}

// R2: lists that are nil and lists that are empty are the same.
func TestNilAndEmptyLists(t *testing.T) {
	for _, names := range [][]string{nil, {}} {
		unleveled(t, of("a", 1, 1), names, api.ErrArg)
		for _, l := range [][]api.Run{nil, {}} {
			leveled(t, api.Capture{Names: channels(2), Runs: l}, "b", nil)
			unleveled(t, api.Capture{Names: names, Runs: l}, channels(1), api.ErrArg)
			unleveled(t, api.Capture{Names: channels(2), Runs: l}, names, api.ErrArg)
		}
	}
	for _, l := range [][]api.Event{nil, {}} {
		merges(t, l, nil)
		run(t, l, nil)
		for _, at := range [][]int{nil, {}} {
			splits(t, l, at, nil)
			splits(t, events(1, 0, 7), at, events(1, 0, 7))
		}
	}
}
