package feed_test

import (
	"math"
	"math/rand"
	"slices"
	"testing"

	"signalbench/api"
	"signalbench/feed"
)

// merges reports an error unless Merge returns exactly these events.
func merges(t *testing.T, l, want []api.Event) {
	t.Helper()
	equal(t, "Merge of "+brief(l), feed.Merge(l), want)
}

// isPlain reports whether an event is plain.
func isPlain(e api.Event) bool {
	return e.Kind == api.EvLevel && e.Aux == 0 && e.Data == "" && e.Fault == api.FtNone
}

// touching reports whether two events touch.
func touching(a, b api.Event) bool {
	return isPlain(a) && isPlain(b) && a.Value == b.Value && a.To == b.From
}

// joined returns the events with every maximal sequence replaced, from one beginning of a sequence to the next.
func joined(l []api.Event) []api.Event {
	var begins []int
	for i := range l {
		if i == 0 || !touching(l[i-1], l[i]) {
			begins = append(begins, i)
		}
	}
	var merged []api.Event
	for k, i := range begins {
		last := len(l) - 1
		if k+1 < len(begins) {
			last = begins[k+1] - 1
		}
		e := l[i]
		e.To = l[last].To
		merged = append(merged, e)
	}
	return merged
}

// P14.2
func TestMerge(t *testing.T) {
	merges(t, nil, nil)
	merges(t, events(1, 0, 5, 1, 5, 7), events(1, 0, 7))
	merges(t, events(1, 0, 3, 1, 3, 5, 1, 5, 9, 1, 9, 10), events(1, 0, 10))
	merges(t, events(1, 0, 3, 1, 3, 5, 0, 5, 9, 0, 9, 10, 1, 10, 11), events(1, 0, 5, 0, 5, 10, 1, 10, 11))
	merges(t, events(1, 0, 3, 2, 3, 5, 1, 5, 9), events(1, 0, 3, 2, 3, 5, 1, 5, 9))
	// A gap and an overlap separate events.
	merges(t, events(1, 0, 3, 1, 4, 5), events(1, 0, 3, 1, 4, 5))
	merges(t, events(1, 0, 3, 1, 2, 5), events(1, 0, 3, 1, 2, 5))
	merges(t, events(1, 0, 3, 1, 0, 3), events(1, 0, 3, 1, 0, 3))
	// The events stay in their order, and only adjacent ones are joined.
	merges(t, events(1, 3, 5, 1, 0, 3), events(1, 3, 5, 1, 0, 3))
	merges(t, events(1, 0, 3, 0, 0, 3, 1, 3, 5, 0, 3, 5), events(1, 0, 3, 0, 0, 3, 1, 3, 5, 0, 3, 5))
	merges(t, events(1, 5, 9, 0, 2, 3, 0, 3, 5), events(1, 5, 9, 0, 2, 5))
	// Any tick and any value will do.
	merges(t, events(-7, -5, 9, -7, 9, -4, -7, -4, -4), events(-7, -5, -4))
	merges(t, events(1, 5, 3, 1, 3, 5, 1, 5, 1), events(1, 5, 1))
	merges(t, events(1, 3, 3, 1, 3, 3), events(1, 3, 3))
	merges(t, events(1<<16, 0, end, 1<<16, end, end+1), events(1<<16, 0, end+1))
	merges(t, events(1, math.MinInt, math.MaxInt, 1, math.MaxInt, math.MinInt), events(1, math.MinInt, math.MinInt))
	merges(t, events(math.MaxInt, 1, 2, math.MaxInt, 2, 3, math.MinInt, 3, 4), events(math.MaxInt, 1, 3, math.MinInt, 3, 4))
}

// P14.2
func TestMergeOfEventsThatAreNotPlain(t *testing.T) {
	a, b, c := level(1, 0, 3), level(1, 3, 5), level(1, 5, 9)
	before, after := marred(a), marred(c)
	for i, other := range marred(b) {
		for _, l := range [][]api.Event{{a, other}, {other, c}, {a, other, c}, {before[i], b}, {before[i], other}, {before[i], other, after[i]}, {b, after[i]}} {
			merges(t, l, l)
		}
		merges(t, []api.Event{a, b, after[i]}, []api.Event{level(1, 0, 5), after[i]})
		merges(t, []api.Event{before[i], b, c}, []api.Event{before[i], level(1, 3, 9)})
		// An event in between separates two that would touch.
		merges(t, []api.Event{a, other, b, c}, []api.Event{a, other, level(1, 3, 9)})
	}
}

// P14.2
func TestMergeOfShortLists(t *testing.T) {
	for _, l := range lists(3, small(2, 2)) {
		merges(t, l, joined(l))
	}
	for _, l := range lists(7, []api.Event{level(0, 0, 1), level(0, 1, 0), level(0, 1, 1), level(1, 0, 1)}) {
		merges(t, l, joined(l))
	}
}

// P14.2
func TestMergeOfRandomLists(t *testing.T) {
	r := rand.New(rand.NewSource(142))
	some := small(2, 4)
	for range 3000 {
		var l []api.Event
		for range r.Intn(60) {
			e := some[r.Intn(len(some))]
			if len(l) > 0 && r.Intn(4) > 0 {
				e.From, e.Value = l[len(l)-1].To, l[len(l)-1].Value
			}
			l = append(l, e)
		}
		merges(t, l, joined(l))
	}
}

// P14.2: there is no limit.
func TestMergeOfManyEvents(t *testing.T) {
	const n = api.MaxEvents + 1
	merges(t, laid(repeated(n, 5, 1)), events(1, 0, 5*n))
	merges(t, laid(repeated(n, 5, 1, 0)), laid(repeated(n, 5, 1, 0)))
	merges(t, laid(repeated(2*n, 5, 1, 1, 0, 0)), laid(repeated(n, 10, 1, 0)))
	merges(t, slices.Repeat(events(1, 2, 3), n), slices.Repeat(events(1, 2, 3), n))
	merges(t, slices.Repeat(events(1, 3, 3), n), events(1, 3, 3))
}
