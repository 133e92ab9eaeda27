package feed_test

import (
	"math"
	"math/rand"
	"slices"
	"testing"

	"signalbench/api"
	"signalbench/feed"
)

// run reports an error unless Runs returns exactly these runs.
func run(t *testing.T, l []api.Event, want []api.Run) {
	t.Helper()
	r, e := feed.Runs(l)
	gives(t, "Runs of "+brief(l), r, e, want)
}

// unrun reports an error unless Runs returns this error.
func unrun(t *testing.T, l []api.Event, want api.Errno) {
	t.Helper()
	r, e := feed.Runs(l)
	fails(t, "Runs of "+brief(l), r, e, want)
}

// P14.4
func TestRuns(t *testing.T) {
	const all = 1<<api.MaxChannels - 1
	run(t, nil, nil)
	run(t, []api.Event{}, nil)
	run(t, events(2, 0, 3, 1, 3, 7), runs(2, 3, 1, 4))
	run(t, events(0, 0, 1), runs(0, 1))
	run(t, events(5, 0, 2, 5, 2, 3, 4, 3, 9), runs(5, 2, 5, 1, 4, 6))
	run(t, events(all, 0, 1, 0, 1, 2, all, 2, 3), runs(all, 1, 0, 1, all, 1))
	run(t, events(all, 0, end), runs(all, end))
	run(t, events(1, 0, end-1, 0, end-1, end), runs(1, end-1, 0, 1))
	run(t, events(1, 0, 1, 0, 1, end), runs(1, 1, 0, end-1))
}

// P14.4
func TestRunsOfWrongTimes(t *testing.T) {
	for _, l := range [][]api.Event{
		events(1, 1, 7), events(1, -1, 7), events(1, 7, 9, 1, 0, 7), events(1, 0, 3, 1, 4, 7), events(1, 0, 3, 1, 2, 7), events(1, 0, 3, 1, 0, 3), events(1, 0, 3, 0, 3, 5, 1, 6, 8), events(1, 0, 3, 1, 3, 5, 1, 3, 5),
		events(1, 0, 0), events(1, 0, 0, 1, 0, 5), events(1, 0, 3, 1, 3, 3), events(1, 0, 3, 1, 3, 3, 1, 3, 5), events(1, 0, 3, 1, 3, 2), events(1, 0, 3, 1, 3, 2, 1, 2, 5), events(1, 0, -1), events(1, -1, 0), events(1, -3, 0, 1, 0, 3), events(1, 3, 0, 1, 0, 3),
		events(1, 0, end+1), events(1, 0, end, 0, end, end+1), events(1, 0, 1, 0, 1, end+1), events(1, end, end+1), events(1, 0, math.MaxInt), events(1, 0, 3, 1, 3, math.MaxInt), events(1, 0, math.MinInt),
		events(1, math.MinInt, 0), events(1, math.MinInt, math.MaxInt), events(1, math.MinInt, math.MinInt+1), events(1, math.MaxInt, math.MinInt), events(1, 0, math.MinInt, 1, math.MinInt, 5), events(1, 0, math.MaxInt, 1, math.MaxInt, math.MinInt),
	} {
		unrun(t, l, api.ErrArg)
	}
}

// P14.4
func TestRunsOfWrongEvents(t *testing.T) {
	right := events(1, 0, 3, 1, 3, 5, 1, 5, 9)
	for i, e := range right {
		for _, other := range marred(e) {
			unrun(t, slices.Concat(right[:i], []api.Event{other}, right[i+1:]), api.ErrArg)
			unrun(t, slices.Concat(right[:i], []api.Event{other}), api.ErrArg)
		}
		for _, value := range []int{-1, 1 << api.MaxChannels, 1<<api.MaxChannels + 1, -1 << api.MaxChannels, 1 << 53, math.MinInt, math.MaxInt} {
			unrun(t, slices.Concat(right[:i], events(value, e.From, e.To), right[i+1:]), api.ErrArg)
		}
	}
}

// P14.4
func TestRunsOfManyEvents(t *testing.T) {
	const n, k = api.MaxRuns, end / api.MaxRuns
	many := repeated(n, k, 0, 1, 1, 1<<api.MaxChannels-1)
	run(t, laid(many), many)
	// The number of the events is wrong before anything else is.
	unrun(t, laid(repeated(n+1, 1, 1)), api.ErrLimit)
	unrun(t, laid(repeated(n+1, k, 0, 1)), api.ErrLimit)
	unrun(t, slices.Repeat(events(1, 5, 2), n+1), api.ErrLimit)
	unrun(t, make([]api.Event, n+1), api.ErrLimit)
	unrun(t, make([]api.Event, n), api.ErrArg)
	unrun(t, append(laid(repeated(n, 1, 1)), level(-1, n, n)), api.ErrLimit)
	unrun(t, append(laid(repeated(n-1, 1, 1)), level(-1, n-1, n)), api.ErrArg)
	unrun(t, append(laid(repeated(n-1, k, 1)), level(1, end-k, end+1)), api.ErrArg)
}

// P14.4
func TestRunsOfShortLists(t *testing.T) {
	for _, l := range lists(3, small(2, 3)) {
		at, right := 0, true
		var want []api.Run
		for _, e := range l {
			right = right && isPlain(e) && e.From == at && e.To > at
			at = e.To
			want = append(want, api.Run{Level: e.Value, Ticks: e.To - e.From})
		}
		if right {
			run(t, l, want)
		} else {
			unrun(t, l, api.ErrArg)
		}
	}
}

// drawn returns the level at each tick of runs.
func drawn(l []api.Run) []int {
	var levels []int
	for _, r := range l {
		levels = append(levels, slices.Repeat([]int{r.Level}, r.Ticks)...)
	}
	return levels
}

// ticksFor returns some ticks around those of a capture, in any order.
func ticksFor(r *rand.Rand, c api.Capture) []int {
	long := len(drawn(c.Runs))
	var at []int
	for range r.Intn(50) {
		at = append(at, r.Intn(long+5)-2)
	}
	return at
}

// P14.5
func TestRunsOfLevels(t *testing.T) {
	const n, k = api.MaxRuns, end / api.MaxRuns
	r := rand.New(rand.NewSource(1450))
	all := []api.Capture{of("a"), of("b a", 3, end), with(16, repeated(n, k, 1<<16-1, 5, 5, 0)), with(1, repeated(n, 1, 1))}
	for range 1000 {
		all = append(all, random(r, 60))
	}
	for _, c := range all {
		l, e := feed.Levels(c, c.Names)
		gives(t, text(c), l, e, laid(c.Runs))
		run(t, l, c.Runs)
	}
}

// P14.5
func TestMergeOfSplit(t *testing.T) {
	r := rand.New(rand.NewSource(1451))
	for range 3000 {
		c := random(r, 40)
		l, _ := feed.Levels(c, c.Names[:1+r.Intn(len(c.Names))])
		at := ticksFor(r, c)
		split := feed.Split(l, at)
		merges(t, split, joined(l))
		merges(t, feed.Merge(split), feed.Merge(l))
		splits(t, split, at, split)
		splits(t, feed.Merge(split), at, parts(joined(l), at))
	}
}

// P14.5
func TestRunsOfMergeAndSplit(t *testing.T) {
	r := rand.New(rand.NewSource(1452))
	for range 3000 {
		c := random(r, 40)
		l, _ := feed.Levels(c, c.Names)
		for _, other := range [][]api.Event{feed.Merge(l), feed.Split(l, ticksFor(r, c))} {
			other, e := feed.Runs(other)
			gives(t, text(c), drawn(other), e, drawn(c.Runs))
		}
	}
	longest := of("a b", 2, end/2, 2, end/2-1, 1, 1)
	l, _ := feed.Levels(longest, longest.Names)
	run(t, feed.Merge(l), runs(2, end-1, 1, 1))
	run(t, feed.Split(l, []int{end / 4}), runs(2, end/4, 2, end/4, 2, end/2-1, 1, 1))
}
