package glitch_test

import (
	"fmt"
	"math"
	"math/rand"
	"slices"
	"strings"
	"testing"

	"signalbench/api"
	"signalbench/capture"
	"signalbench/glitch"
)

// of returns the capture with these names, which blanks separate, and these levels and ticks, which alternate.
func of(names string, n ...int) api.Capture {
	return api.Capture{Names: strings.Fields(names), Runs: runs(n...)}
}

// with returns the capture of a number of channels with these runs.
func with(count int, l []api.Run) api.Capture {
	return api.Capture{Names: strings.Fields(letters)[:count], Runs: l}
}

// text returns the beginnings of the names and of the runs of a capture.
func text(c api.Capture) string { return fmt.Sprintf("%q %s", c.Names, brief(c.Runs)) }

// filters reports an error unless All returns exactly this capture.
func filters(t *testing.T, c api.Capture, least int, want api.Capture) {
	t.Helper()
	d, e := glitch.All(c, least)
	if e != api.OK || !slices.Equal(d.Names, want.Names) || !slices.Equal(d.Runs, want.Runs) {
		t.Errorf("%s, least %d: %s %d, not %s", text(c), least, text(d), e, text(want))
	}
}

// refuses reports an error unless All returns this error and the zero value.
func refuses(t *testing.T, c api.Capture, least int, want api.Errno) {
	t.Helper()
	d, e := glitch.All(c, least)
	if len(d.Names) != 0 || len(d.Runs) != 0 || e != want {
		t.Errorf("%s, least %d: %s %d, not error %d", text(c), least, text(d), e, want)
	}
}

// levels returns the level of a channel at each tick, as text.
func levels(c api.Capture, channel int) string {
	var l []api.Run
	for _, r := range c.Runs {
		l = append(l, runs(r.Level/int(math.Pow(2, float64(channel)))%2, r.Ticks)...)
	}
	return drawn(l)
}

// drawnFilter returns the capture of the filtered channels of a short capture, tick by tick.
func drawnFilter(c api.Capture, least int) api.Capture {
	l := repeated(long(c.Runs), 1, 0)
	factor := 1
	for i := range c.Names {
		for at, level := range filtered(levels(c, i), least) {
			l[at].Level += factor * int(level-'0')
		}
		factor *= 2
	}
	return api.Capture{Names: c.Names, Runs: cleaned(l)}
}

// P13.3
func TestAll(t *testing.T) {
	// Channel a is 1 for 5 ticks, 0 for 2 and 1 for 6; channel b is 0 for 4, 1 for 4 and 0 for 5.
	c := of("a b", 1, 4, 3, 1, 2, 2, 3, 1, 1, 5)
	filters(t, c, 2, c)
	filters(t, c, 3, of("a b", 1, 4, 3, 4, 1, 5))
	filters(t, c, 4, of("a b", 1, 4, 3, 4, 1, 5))
	filters(t, c, 5, of("a b", 1, 13))
	// A pulse is judged by the runs of its channel, not by those of the capture.
	filters(t, of("a b", 0, 4, 1, 1, 3, 1, 1, 1, 3, 1, 0, 4), 4, of("a b", 0, 4, 1, 4, 0, 4))
	filters(t, of("b a", 0, 1, 1, 1, 3, 1), 9, of("b a", 0, 1, 1, 1, 3, 1))
	filters(t, of("x", 0, 5, 0, 3, 1, 1, 1, 1, 0, 4), 3, of("x", 0, 14))
	filters(t, of("x", 0, 5, 0, 3, 1, 1, 1, 1, 0, 4), 2, of("x", 0, 8, 1, 2, 0, 4))
}

// P13.3
func TestAllOfShortCaptures(t *testing.T) {
	for count, most := range []int{0, 6, 5, 3} {
		for n := 0; count > 0 && n <= most; n++ {
			for _, l := range exactly(n, 1<<count-1) {
				c := with(count, l)
				for _, least := range []int{-1, 0, 1, 2, 3, 4, 5, 6, math.MaxInt} {
					filters(t, c, least, drawnFilter(c, least))
				}
			}
		}
	}
}

// P13.3
func TestAllOfRandomCaptures(t *testing.T) {
	r := rand.New(rand.NewSource(133))
	for range 1500 {
		count := 1 + r.Intn(16)
		c := with(count, nil)
		r.Shuffle(count, func(i, j int) { c.Names[i], c.Names[j] = c.Names[j], c.Names[i] })
		level := r.Intn(1 << count)
		for range r.Intn(100) {
			level ^= 1 << r.Intn(count)
			c.Runs = append(c.Runs, api.Run{Level: level, Ticks: 1 + r.Intn(4)})
		}
		least := r.Intn(30)
		filters(t, c, least, drawnFilter(c, least))
	}
}

// P13.3
func TestAllAtTheLimits(t *testing.T) {
	const n, k = api.MaxRuns, end / api.MaxRuns
	for _, least := range leasts() {
		for _, c := range []api.Capture{of("a"), of("b a"), with(16, nil), of("a", 0, end), with(16, runs(1<<16-1, end)), of("a_long_name_of16", 1, 1), of("a b", 1, 1, 2, end-1)} {
			filters(t, c, least, c)
		}
	}
	all := repeated(n, k, 0, 1<<16-1)
	filters(t, with(16, all), k, with(16, all))
	filters(t, with(16, all), k+1, with(16, runs(0, end-k, 1<<16-1, k)))
	filters(t, with(1, repeated(n, k, 1)), end, with(1, runs(1, end)))
	filters(t, of("a", 0, end/2, 1, 2, 0, end/2-2), 3, of("a", 0, end))
	filters(t, of("a b", 0, end/2, 1, 2, 3, end/2-2), 3, of("a b", 0, end/2, 1, 2, 3, end/2-2))
	// Channel a changes at each run, channel b only in the middle.
	l := repeated(n, k, 0, 1)
	for i := n / 2; i < n; i++ {
		l[i].Level += 2
	}
	filters(t, with(2, l), k, with(2, l))
	filters(t, with(2, l), k+1, with(2, runs(0, end/2, 2, end/2-k, 3, k)))
}

// P13.3
func TestAllOfWrongCaptures(t *testing.T) {
	for _, x := range []struct {
		c api.Capture
		e api.Errno
	}{
		{api.Capture{}, api.ErrArg}, {api.Capture{Names: []string{}, Runs: runs(0, 1)}, api.ErrArg},
		{with(17, nil), api.ErrLimit}, {with(17, runs(1, 5)), api.ErrLimit}, {with(1, repeated(api.MaxRuns+1, 1, 0, 1)), api.ErrLimit}, {with(16, repeated(api.MaxRuns+1, 1, 5)), api.ErrLimit},
		{of("A"), api.ErrSyntax}, {of("a 1 b", 1, 1), api.ErrSyntax}, {of("a_long_name_of_17", 1, 1), api.ErrSyntax}, {of("a a B", 9, 9), api.ErrSyntax}, {api.Capture{Names: []string{"a", ""}}, api.ErrSyntax},
		{of("a a"), api.ErrDuplicate}, {of("a b c a", 1, 1), api.ErrDuplicate}, {of("b a a", 99, 0), api.ErrDuplicate},
		{of("a", 2, 1), api.ErrRange}, {of("a b", 3, 1, -1, 1), api.ErrRange}, {of("a", math.MaxInt, 1), api.ErrRange}, {with(16, runs(1<<16, 1)), api.ErrRange},
		{of("a", 1, 0), api.ErrRange}, {of("a b", 1, 5, 1, 0), api.ErrRange}, {of("a", 1, 5, 0, -2, 1, 5), api.ErrRange}, {of("a", 1, end+1), api.ErrRange}, {of("a", 1, end, 0, 1), api.ErrRange},
	} {
		for _, least := range slices.Concat(leasts(), []int{2, 9}) {
			refuses(t, x.c, least, x.e)
		}
	}
}

// P13.5
func TestAllTwice(t *testing.T) {
	r := rand.New(rand.NewSource(1350))
	for range 500 {
		c := with(3, nil)
		for range r.Intn(80) {
			c.Runs = append(c.Runs, api.Run{Level: r.Intn(8), Ticks: 1 + r.Intn(5)})
		}
		least := r.Intn(20)
		once, e := glitch.All(c, least)
		if e != api.OK || capture.Long(once) != capture.Long(c) {
			t.Errorf("%s: %s %d", text(c), text(once), e)
		}
		filters(t, once, least, once)
	}
}
