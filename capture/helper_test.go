package capture_test

import (
	"fmt"
	"math"
	"math/rand"
	"slices"
	"strings"
	"testing"

	"signalbench/api"
)

const end = api.MaxTime

// stretch is the factor by which the captures of 4 ticks become those of the greatest length.
const stretch = end / 4

// letters has a name for each channel of the greatest number of them, and one more.
const letters = "a b c d e f g h i j k l m n o p q"

// noName is a name that no capture of these tests has.
const noName = "z"

// runs returns runs of these levels and ticks, which alternate.
func runs(n ...int) []api.Run {
	var l []api.Run
	for i := 0; i < len(n); i += 2 {
		l = append(l, api.Run{Level: n[i], Ticks: n[i+1]})
	}
	return l
}

// named returns the capture with these names, which blanks separate, and these levels and ticks, which alternate.
func named(names string, n ...int) api.Capture {
	return api.Capture{Names: strings.Fields(names), Runs: runs(n...)}
}

// channels returns a number of names.
func channels(n int) []string { return strings.Fields(letters)[:n] }

// of returns the capture of a number of channels with these runs.
func of(n int, l []api.Run) api.Capture { return api.Capture{Names: channels(n), Runs: l} }

// times returns the runs with their ticks multiplied by k.
func times(l []api.Run, k int) []api.Run {
	var r []api.Run
	for _, x := range l {
		r = append(r, api.Run{Level: x.Level, Ticks: k * x.Ticks})
	}
	return r
}

// repeated returns n runs of k ticks each whose levels are these, again and again.
func repeated(n, k int, levels ...int) []api.Run {
	var l []api.Run
	for i := range n {
		l = append(l, api.Run{Level: levels[i%len(levels)], Ticks: k})
	}
	return l
}

// exactly returns all lists of runs of n ticks with the levels from 0 to the mask.
func exactly(n, mask int) [][]api.Run {
	if n == 0 {
		return [][]api.Run{nil}
	}
	var all [][]api.Run
	for k := 1; k <= n; k++ {
		for _, rest := range exactly(n-k, mask) {
			for level := range mask + 1 {
				all = append(all, append(runs(level, k), rest...))
			}
		}
	}
	return all
}

// short returns all captures of one channel of up to 5 ticks, of two of up to 4, and of three of up to 3.
func short() []api.Capture {
	var all []api.Capture
	for n, most := range []int{0, 5, 4, 3} {
		for k := 0; n > 0 && k <= most; k++ {
			for _, l := range exactly(k, 1<<n-1) {
				all = append(all, of(n, l))
			}
		}
	}
	return all
}

// random returns a random valid capture of up to n runs, of which few channels change at a time.
func random(r *rand.Rand, n int) api.Capture {
	var l []api.Run
	count := 1 + r.Intn(api.MaxChannels)
	level, shift := r.Intn(1<<count), r.Intn(40)
	for range r.Intn(n + 1) {
		if r.Intn(4) > 0 {
			level ^= 1 << r.Intn(count)
		}
		l = append(l, api.Run{Level: level, Ticks: 1 + r.Intn(end/n)>>shift})
	}
	return of(count, l)
}

// drawn returns the levels of a short capture, one for each tick.
func drawn(l []api.Run) []int {
	var levels []int
	for _, r := range l {
		levels = append(levels, slices.Repeat([]int{r.Level}, r.Ticks)...)
	}
	return levels
}

// read returns the clean runs with these levels.
func read(levels []int) []api.Run {
	var l []api.Run
	for i := 0; i < len(levels); {
		k := i
		for k < len(levels) && levels[k] == levels[i] {
			k++
		}
		l = append(l, runs(levels[i], k-i)...)
		i = k
	}
	return l
}

// one returns the levels of one channel of these levels, found without shifts.
func one(levels []int, channel int) []int {
	var l []int
	for _, level := range levels {
		for range channel {
			level /= 2
		}
		l = append(l, level%2)
	}
	return l
}

// changed returns the edges of the levels of these channels.
func changed(levels []int, count int) []api.Edge {
	var l []api.Edge
	for at := 1; at < len(levels); at++ {
		for i := range count {
			if level := one(levels, i)[at]; level != one(levels, i)[at-1] {
				l = append(l, api.Edge{At: at, Channel: i, Level: level})
			}
		}
	}
	return l
}

// brief returns the beginning and the length of a list as text.
func brief[T any](l []T) string { return fmt.Sprint(l[:min(len(l), 10)], " of ", len(l)) }

// text returns the names and the beginning of the runs of a capture.
func text(c api.Capture) string {
	return fmt.Sprintf("%q", c.Names[:min(len(c.Names), 20)]) + " " + brief(c.Runs)
}

// equal reports an error unless the lists are equal.
func equal[T comparable](t *testing.T, what string, l, want []T) {
	t.Helper()
	if !slices.Equal(l, want) {
		t.Errorf("%s: %s, not %s", what, brief(l), brief(want))
	}
}

// gives reports an error unless a call returned exactly this capture.
func gives(t *testing.T, what string, c api.Capture, e api.Errno, want api.Capture) {
	t.Helper()
	if e != api.OK || !slices.Equal(c.Names, want.Names) || !slices.Equal(c.Runs, want.Runs) {
		t.Errorf("%s: %s %d, not %s", what, text(c), e, text(want))
	}
}

// fails reports an error unless a call returned this error and the zero value.
func fails(t *testing.T, what string, c api.Capture, e, want api.Errno) {
	t.Helper()
	if len(c.Names) != 0 || len(c.Runs) != 0 || e != want {
		t.Errorf("%s: %s %d, not error %d", what, text(c), e, want)
	}
}

// right returns valid captures: ordinary ones, and those at the limits of every field.
func right() []api.Capture {
	const n, k = api.MaxRuns, end / api.MaxRuns
	all := []api.Capture{
		named("a"), named("a b", 1, 1, 3, 2, 2, 2), named("a", 0, 1), named("a", 1, 1), named("a b", 0, 4, 0, 3, 3, 2, 3, 1, 1, 1),
		named("b a", 2, 1, 1, 1), named("a_long_name_of_16", 1, 5)}
	all[6].Names = []string{"a_long_name_of16"}
	for _, names := range []string{"a1 a_ a2 z9 x", "aa a aaa a0", "clock data_0", letters[:31]} {
		all = append(all, named(names), named(names, 1, 3, 0, 1), named(names, 0, end), named(names, 1, end-1, 0, 1))
	}
	return append(all, named("a", 0, end), named("a", 1, end/2, 1, end/2), named("a b c", 7, 1, 0, end-1), named("a b", 3, 1<<31, 0, 1<<32, 2, 1<<33),
		of(16, runs(1<<16-1, 1, 0, 2, 1<<15, 3, 1, 4, 0x5555, 5, 0xaaaa, end-15)), of(16, nil),
		of(1, repeated(n, 1, 0, 1)), of(2, repeated(n, k, 0, 3, 2, 1, 1)), of(16, repeated(n, k, 1<<16-1)), of(3, repeated(n-1, 1, 7, 6, 6, 0)))
}

// faulty is a capture with the error that it must have.
type faulty struct {
	c api.Capture
	e api.Errno
}

// wrong returns captures that are not valid for one reason only.
func wrong() []faulty {
	l := []faulty{{api.Capture{}, api.ErrArg}, {api.Capture{Names: []string{}}, api.ErrArg}, {api.Capture{Runs: runs(0, 1)}, api.ErrArg}, {api.Capture{Runs: repeated(api.MaxRuns, 1, 0)}, api.ErrArg},
		{of(17, nil), api.ErrLimit}, {of(17, runs(1, 5)), api.ErrLimit}, {of(1, repeated(api.MaxRuns+1, 1, 0, 1)), api.ErrLimit}, {of(16, repeated(api.MaxRuns+1, 1, 5)), api.ErrLimit}, {of(2, repeated(2*api.MaxRuns, 1, 0)), api.ErrLimit},
	}
	for _, name := range []string{"", "A", "aB", "1", "1a", "_", "_a", "a b", "a ", " a", "a-", "a.b", "a\n", "a\x00", "\x00", "ä", "aä", "a_long_name_of_17", strings.Repeat("a", 17), strings.Repeat("a", 1000), "a\xff", "{", "a`", "a/", "a:"} {
		for _, names := range [][]string{{name}, {name, "b"}, {"b", name}, {"b", name, "c"}, append(channels(15), name)} {
			l = append(l, faulty{api.Capture{Names: names, Runs: runs(1, 3, 0, 2)}, api.ErrSyntax}, faulty{api.Capture{Names: names}, api.ErrSyntax})
		}
	}
	for i := range api.MaxChannels {
		for k := range i {
			names := channels(api.MaxChannels)
			names[i] = names[k]
			l = append(l, faulty{api.Capture{Names: names, Runs: runs(1, 3, 0, 2)}, api.ErrDuplicate}, faulty{api.Capture{Names: names}, api.ErrDuplicate})
		}
	}
	l = append(l, faulty{named("a a"), api.ErrDuplicate}, faulty{named("a a a", 1, 1), api.ErrDuplicate}, faulty{named("b a a"), api.ErrDuplicate}, faulty{named("a b a"), api.ErrDuplicate})
	for _, c := range outOfRange() {
		l = append(l, faulty{c, api.ErrRange})
	}
	return l
}

// outOfRange returns captures of which a level or the ticks are wrong.
func outOfRange() []api.Capture {
	var l []api.Capture
	for n := 1; n <= api.MaxChannels; n++ {
		for _, level := range []int{math.MinInt, -1 << n, -2, -1, 1 << n, 1<<n + 1, 1 << (n + 1), 1 << 16, 1 << 32, 1<<32 + 1, 1 << 62, math.MaxInt} {
			r := api.Run{Level: level, Ticks: 1}
			l = append(l, of(n, []api.Run{r}), of(n, append(runs(0, 2), r)), of(n, append([]api.Run{r}, runs(1, 2, 0, 1)...)), of(n, append(runs(1, 1, 0, 1), r, r)))
		}
	}
	for _, k := range []int{math.MinInt, math.MinInt + 1, -end, -1 << 32, -2, -1, 0, end + 1, end + 2, 2 * end, 1 << 53, 1 << 62, math.MaxInt - 1, math.MaxInt} {
		l = append(l, named("a", 0, k), named("a b", 3, 2, 1, k), named("a", 1, k, 0, 4), named("a b c", 1, 1, 7, k, 0, 1), named("a", 0, k, 1, k))
	}
	// Sums that are small only where integers overflow, and sums with negative parts.
	return append(l, named("a", 0, end, 1, 1), named("a", 0, 1, 1, end), named("a b", 0, end, 3, end), named("a", 0, end, 0, 1), named("a", 0, end/2, 1, end/2, 0, 1),
		named("a", 0, math.MaxInt, 1, math.MaxInt, 0, 3), named("a", 0, 1, 1, math.MaxInt, 0, math.MaxInt, 1, 2), named("a", 0, 5, 1, -3, 0, 4), named("a", 0, end+1, 1, -1), named("a", 0, -1, 1, end+1),
		of(1, repeated(4, 1<<62, 0, 1)), of(1, append(repeated(4, 1<<62, 0), runs(1, 1)...)), of(1, append(repeated(api.MaxRuns-1, 1, 0, 1), runs(1, 0)...)), of(2, append(repeated(api.MaxRuns-1, 1, 0, 3), runs(4, 1)...)),
		of(1, append(repeated(api.MaxRuns-1, 1, 0, 1), runs(1, end)...)), of(1, repeated(api.MaxRuns, end/api.MaxRuns+1, 0, 1)))
}
