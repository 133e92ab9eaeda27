package feed_test

import (
	"fmt"
	"math"
	"math/rand"
	"slices"
	"strings"
	"testing"

	"signalbench/api"
	"signalbench/feed"
)

// leveled reports an error unless Levels returns exactly these events for names, which blanks separate.
func leveled(t *testing.T, c api.Capture, names string, want []api.Event) {
	t.Helper()
	l, e := feed.Levels(c, strings.Fields(names))
	gives(t, fmt.Sprint(text(c), " of ", names), l, e, want)
}

// unleveled reports an error unless Levels returns this error.
func unleveled(t *testing.T, c api.Capture, names []string, want api.Errno) {
	t.Helper()
	l, e := feed.Levels(c, names)
	fails(t, fmt.Sprintf("%s of %q", text(c), names), l, e, want)
}

// valueOf returns the levels of some channels in a run, the weight of each being that of its place among the names.
func valueOf(r api.Run, all, names []string) int {
	sum := 0
	for i, name := range names {
		for channel, other := range all {
			if name == other && r.Level/int(math.Pow(2, float64(channel)))%2 == 1 {
				sum += int(math.Pow(2, float64(i)))
			}
		}
	}
	return sum
}

// levelsOf returns the events of some channels of a capture.
func levelsOf(c api.Capture, names []string) []api.Event {
	var l []api.Run
	for _, r := range c.Runs {
		l = append(l, api.Run{Level: valueOf(r, c.Names, names), Ticks: r.Ticks})
	}
	return laid(l)
}

// P14.1
func TestLevels(t *testing.T) {
	c := of("a b", 1, 3, 2, 4)
	leveled(t, c, "b a", events(2, 0, 3, 1, 3, 7))
	leveled(t, c, "a b", events(1, 0, 3, 2, 3, 7))
	leveled(t, c, "a", events(1, 0, 3, 0, 3, 7))
	leveled(t, c, "b", events(0, 0, 3, 1, 3, 7))
	// Runs are not joined, whether their levels are the same or only those of the selected channels.
	leveled(t, of("a", 1, 3, 1, 2, 0, 1, 0, 1), "a", events(1, 0, 3, 1, 3, 5, 0, 5, 6, 0, 6, 7))
	leveled(t, of("a b c", 2, 1, 3, 1, 6, 1, 7, 1), "b", events(1, 0, 1, 1, 1, 2, 1, 2, 3, 1, 3, 4))
	// The numbers of channels are those of the capture, not those of their letters.
	leveled(t, of("c a b", 1, 1, 2, 2, 4, 3, 5, 4), "a b c", events(4, 0, 1, 1, 1, 3, 2, 3, 6, 6, 6, 10))
	leveled(t, of("c a b", 1, 1, 2, 2, 4, 3, 5, 4), "b c", events(2, 0, 1, 0, 1, 3, 1, 3, 6, 3, 6, 10))
	leveled(t, of("a aa a_long_name_of16", 5, 9), "a_long_name_of16 aa a", events(5, 0, 9))
	leveled(t, of("a aa a_long_name_of16", 6, 9), "a aa", events(2, 0, 9))
}

// P14.1
func TestLevelsOfShortCaptures(t *testing.T) {
	three := channels(3)
	for _, levels := range lists(3, []int{0, 1, 2, 3, 4, 5, 6, 7}) {
		c := with(3, nil)
		for i, level := range levels {
			c.Runs = append(c.Runs, api.Run{Level: level, Ticks: 1 + (i+level)%3})
		}
		for _, names := range lists(3, three) {
			if len(names) == 0 {
				unleveled(t, c, names, api.ErrArg)
			} else if len(slices.Compact(slices.Sorted(slices.Values(names)))) < len(names) {
				unleveled(t, c, names, api.ErrDuplicate)
			} else {
				leveled(t, c, strings.Join(names, " "), levelsOf(c, names))
			}
		}
	}
}

// P14.1
func TestLevelsOfRandomCaptures(t *testing.T) {
	r := rand.New(rand.NewSource(141))
	for range 1000 {
		c := random(r, 50)
		names := slices.Clone(c.Names)
		r.Shuffle(len(names), func(i, j int) { names[i], names[j] = names[j], names[i] })
		names = names[:1+r.Intn(len(names))]
		leveled(t, c, strings.Join(names, " "), levelsOf(c, names))
	}
}

// P14.1
func TestLevelsAtTheLimits(t *testing.T) {
	const n, k, all = api.MaxRuns, end / api.MaxRuns, 1<<api.MaxChannels - 1
	sixteen := channels(16)
	for i, name := range sixteen {
		c := with(16, runs(1<<i, 2, all-1<<i, 3))
		leveled(t, c, name, events(1, 0, 2, 0, 2, 5))
		leveled(t, c, strings.Join(sixteen, " "), events(1<<i, 0, 2, all-1<<i, 2, 5))
		slices.Reverse(sixteen)
		leveled(t, c, strings.Join(sixteen, " "), events(1<<(15-i), 0, 2, all-1<<(15-i), 2, 5))
		slices.Reverse(sixteen)
	}
	leveled(t, of("a", 1, end), "a", events(1, 0, end))
	leveled(t, with(16, runs(all, end)), strings.Join(sixteen, " "), events(all, 0, end))
	leveled(t, of("a b", 2, 1, 1, end-2, 2, 1), "b a", events(1, 0, 1, 2, 1, end-1, 1, end-1, end))
	leveled(t, with(2, repeated(n, k, 0, 1, 2, 3)), "b a", laid(repeated(n, k, 0, 2, 1, 3)))
	leveled(t, with(1, repeated(n, 1, 1)), "a", laid(repeated(n, 1, 1)))
	// A capture without runs has no events.
	leveled(t, of("a"), "a", nil)
	leveled(t, of("a b"), "b", nil)
	leveled(t, with(16, nil), "p a", nil)
}

// P14.1
func TestLevelsOfWrongNames(t *testing.T) {
	for _, c := range []api.Capture{of("a b c", 1, 3, 6, 4), of("a b c"), of("c b a", 7, end)} {
		unleveled(t, c, nil, api.ErrArg)
		unleveled(t, c, []string{}, api.ErrArg)
		for _, names := range []string{"d", "A", "1", "-", "aa", "a d", "d a", "a d a", "d a a", "d d", "a b c d", "a b c d c", "a a_long_name_of_17"} {
			unleveled(t, c, strings.Fields(names), api.ErrNotFound)
		}
		for _, names := range [][]string{{""}, {"a", ""}, {"", "a", "a"}, {"a "}, {"a\x00"}, {"a b"}, {"a", strings.Repeat("a", 1<<20)}} {
			unleveled(t, c, names, api.ErrNotFound)
		}
		for _, names := range []string{"a a", "a b a", "b a a", "a a d", "a b b d d", "a b c c", "a b c a d", "c c c", "a b c a b c"} {
			unleveled(t, c, strings.Fields(names), api.ErrDuplicate)
		}
	}
	// More names than a capture can have cannot all be different ones of it.
	c := with(16, runs(1, 1))
	unleveled(t, c, strings.Fields(letters), api.ErrNotFound)
	unleveled(t, c, append(channels(16), "p"), api.ErrDuplicate)
	unleveled(t, c, append(channels(16), "a", "q"), api.ErrDuplicate)
	unleveled(t, c, slices.Repeat([]string{"p"}, 1<<20), api.ErrDuplicate)
	unleveled(t, c, slices.Repeat([]string{"q"}, 1<<20), api.ErrNotFound)
}

// P14.1
func TestLevelsOfWrongCaptures(t *testing.T) {
	for _, x := range []struct {
		c api.Capture
		e api.Errno
	}{
		{api.Capture{}, api.ErrArg}, {api.Capture{Names: []string{}, Runs: runs(0, 1)}, api.ErrArg},
		{with(17, nil), api.ErrLimit}, {with(17, runs(1, 5)), api.ErrLimit}, {with(1, repeated(api.MaxRuns+1, 1, 0, 1)), api.ErrLimit}, {with(16, repeated(api.MaxRuns+1, 1, 5)), api.ErrLimit},
		{of("A"), api.ErrSyntax}, {of("a 1 b", 1, 1), api.ErrSyntax}, {of("a a_long_name_of_17", 1, 1), api.ErrSyntax}, {of("a a B", 9, 9), api.ErrSyntax}, {api.Capture{Names: []string{"a", ""}}, api.ErrSyntax},
		{of("a a"), api.ErrDuplicate}, {of("a b c a", 1, 1), api.ErrDuplicate}, {of("b a a", 99, 0), api.ErrDuplicate},
		{of("a", 2, 1), api.ErrRange}, {of("a b", 3, 1, -1, 1), api.ErrRange}, {of("a", math.MaxInt, 1), api.ErrRange}, {with(16, runs(1<<16, 1)), api.ErrRange},
		{of("a", 1, 0), api.ErrRange}, {of("a b", 1, 5, 1, 0), api.ErrRange}, {of("a", 1, 5, 0, -2, 1, 5), api.ErrRange}, {of("a", 1, end+1), api.ErrRange}, {of("a", 1, end, 0, 1), api.ErrRange}, {of("a", 1, math.MaxInt, 0, math.MaxInt), api.ErrRange},
	} {
		for _, names := range [][]string{nil, {}, {"a"}, {"a", "a"}, {"q"}, {"x", "a"}, {""}, x.c.Names} {
			unleveled(t, x.c, names, x.e)
		}
	}
}
