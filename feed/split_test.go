package feed_test

import (
	"fmt"
	"math"
	"math/rand"
	"slices"
	"testing"

	"signalbench/api"
	"signalbench/feed"
)

// splits reports an error unless Split returns exactly these events.
func splits(t *testing.T, l []api.Event, at []int, want []api.Event) {
	t.Helper()
	equal(t, fmt.Sprint("Split of ", brief(l), " at ", brief(at)), feed.Split(l, at), want)
}

// parts returns the events with the plain ones replaced by their parts, each found by looking through all ticks.
func parts(l []api.Event, at []int) []api.Event {
	var all []api.Event
	for _, e := range l {
		for {
			next := e.To
			for _, tick := range at {
				if isPlain(e) && e.From < tick && tick < next {
					next = tick
				}
			}
			part := e
			part.To = next
			all = append(all, part)
			if next == e.To {
				break
			}
			e.From = next
		}
	}
	return all
}

// P14.3
func TestSplit(t *testing.T) {
	one := events(1, 0, 7)
	splits(t, one, []int{9, 5, 5, 0, 7}, events(1, 0, 5, 1, 5, 7))
	splits(t, one, []int{3}, events(1, 0, 3, 1, 3, 7))
	splits(t, one, []int{6, 1, 3}, events(1, 0, 1, 1, 1, 3, 1, 3, 6, 1, 6, 7))
	splits(t, one, []int{3, 1, 3, 1, 3, 3, 1}, events(1, 0, 1, 1, 1, 3, 1, 3, 7))
	splits(t, one, []int{6, 5, 4, 3, 2, 1, 0}, events(1, 0, 1, 1, 1, 2, 1, 2, 3, 1, 3, 4, 1, 4, 5, 1, 5, 6, 1, 6, 7))
	// Ticks at the bounds and outside of them do not divide.
	for _, at := range [][]int{nil, {0}, {7}, {0, 7}, {-1, 8}, {0, 0, 7, 7}, {math.MinInt, math.MaxInt}, {9, -9, 0}} {
		splits(t, one, at, one)
		splits(t, nil, at, nil)
	}
	splits(t, one, []int{math.MaxInt, 1, math.MinInt, 6}, events(1, 0, 1, 1, 1, 6, 1, 6, 7))
	// Each event is divided by the ticks within it.
	splits(t, events(1, 0, 4, 2, 4, 8, 3, 8, 9), []int{2, 4, 6}, events(1, 0, 2, 1, 2, 4, 2, 4, 6, 2, 6, 8, 3, 8, 9))
	splits(t, events(1, 0, 4, 1, 2, 6, 0, 1, 5), []int{3}, events(1, 0, 3, 1, 3, 4, 1, 2, 3, 1, 3, 6, 0, 1, 3, 0, 3, 5))
	splits(t, events(1, 4, 8, 2, 0, 4, 3, 4, 8), []int{6, 2}, events(1, 4, 6, 1, 6, 8, 2, 0, 2, 2, 2, 4, 3, 4, 6, 3, 6, 8))
	splits(t, events(1, 0, 4, 1, 4, 8), []int{9}, events(1, 0, 4, 1, 4, 8))
}

// P14.3: the times and the value of a plain event may be any numbers.
func TestSplitOfAnyTimes(t *testing.T) {
	for _, l := range [][]api.Event{events(1, 3, 3), events(1, 5, 1), events(1, 4, 2), events(1, math.MaxInt, math.MinInt), events(1, math.MaxInt, math.MaxInt), events(1, math.MinInt, math.MinInt), events(1, 2, 3)} {
		splits(t, l, []int{1, 2, 3, 4, 5, math.MinInt, math.MaxInt}, l)
	}
	splits(t, events(-3, -9, 9), []int{0, -9, 4, -4, 9}, events(-3, -9, -4, -3, -4, 0, -3, 0, 4, -3, 4, 9))
	splits(t, events(1<<16, 0, end+5), []int{end}, events(1<<16, 0, end, 1<<16, end, end+5))
	splits(t, events(math.MaxInt, math.MinInt, math.MaxInt), []int{math.MaxInt, 0, math.MinInt, math.MaxInt - 1, math.MinInt + 1}, events(
		math.MaxInt, math.MinInt, math.MinInt+1, math.MaxInt, math.MinInt+1, 0, math.MaxInt, 0, math.MaxInt-1, math.MaxInt, math.MaxInt-1, math.MaxInt))
}

// P14.3
func TestSplitOfEventsThatAreNotPlain(t *testing.T) {
	for _, other := range marred(level(1, 0, 9)) {
		splits(t, []api.Event{other}, []int{3, 6}, []api.Event{other})
		splits(t, []api.Event{level(2, 0, 5), other, level(3, 5, 9)}, []int{6, 3}, []api.Event{level(2, 0, 3), level(2, 3, 5), other, level(3, 5, 6), level(3, 6, 9)})
	}
}

// P14.3
func TestSplitOfShortLists(t *testing.T) {
	ticks := lists(4, []int{-1, 0, 1, 2, 3, 4})
	for _, e := range small(1, 4) {
		for _, at := range ticks {
			splits(t, []api.Event{e}, at, parts([]api.Event{e}, at))
		}
	}
	pairs := lists(2, []int{1, 2, 3})
	for _, l := range lists(2, small(2, 3)) {
		for _, at := range pairs {
			splits(t, l, at, parts(l, at))
		}
	}
}

// P14.3
func TestSplitOfRandomLists(t *testing.T) {
	r := rand.New(rand.NewSource(143))
	for range 3000 {
		var l []api.Event
		for range r.Intn(20) {
			e := level(r.Intn(3), r.Intn(40), r.Intn(60))
			e.Fault = max(0, r.Intn(5)-3)
			l = append(l, e)
		}
		var at []int
		for range r.Intn(30) {
			at = append(at, r.Intn(62)-1)
		}
		splits(t, l, at, parts(l, at))
	}
}

// P14.3: there is no limit.
func TestSplitIntoManyEvents(t *testing.T) {
	const n, k = api.MaxEvents + 1, end / api.MaxEvents
	var all, odd []int
	for i := range n {
		all = append(all, i*k, i*k)
		odd = append(odd, (2*i+1)*k)
	}
	slices.Reverse(all)
	splits(t, events(5, 0, end), all, laid(repeated(n-1, k, 5)))
	splits(t, events(5, -1, end+1), all, slices.Concat(events(5, -1, 0), laid(repeated(n-1, k, 5)), events(5, end, end+1)))
	splits(t, laid(repeated(n, k, 0, 1)), all, laid(repeated(n, k, 0, 1)))
	splits(t, laid(repeated(n, 2*k, 0, 1)), odd, laid(repeated(2*n, k, 0, 0, 1, 1)))
	splits(t, slices.Repeat(events(1, 2, 4), n), []int{3}, slices.Repeat(events(1, 2, 3, 1, 3, 4), n))
}
