package remap_test

import (
	"fmt"
	"math"
	"math/big"
	"math/rand"
	"slices"
	"strconv"
	"strings"
	"testing"

	"signalbench/api"
)

const end = api.MaxTime

// letters has two names more than the greatest number of channels.
const letters = "a b c d e f g h i j k l m n o p q r"

// runs returns runs of these levels and ticks, which alternate.
func runs(n ...int) []api.Run {
	var l []api.Run
	for i := 0; i < len(n); i += 2 {
		l = append(l, api.Run{Level: n[i], Ticks: n[i+1]})
	}
	return l
}

// of returns the capture with these names, which blanks separate, and these levels and ticks, which alternate.
func of(names string, n ...int) api.Capture {
	return api.Capture{Names: strings.Fields(names), Runs: runs(n...)}
}

// channels returns a number of names.
func channels(n int) []string { return strings.Fields(letters)[:n] }

// with returns the capture of a number of channels with these runs.
func with(count int, l []api.Run) api.Capture { return api.Capture{Names: channels(count), Runs: l} }

// named returns the capture with other names, which blanks separate.
func named(c api.Capture, names string) api.Capture {
	return api.Capture{Names: strings.Fields(names), Runs: c.Runs}
}

// repeated returns n runs of k ticks each whose levels are these, again and again.
func repeated(n, k int, levels ...int) []api.Run {
	var l []api.Run
	for i := range n {
		l = append(l, api.Run{Level: levels[i%len(levels)], Ticks: k})
	}
	return l
}

// stretched returns the capture with the ticks of its runs multiplied by k.
func stretched(c api.Capture, k int) api.Capture {
	longer := api.Capture{Names: c.Names}
	for _, r := range c.Runs {
		longer.Runs = append(longer.Runs, api.Run{Level: r.Level, Ticks: k * r.Ticks})
	}
	return longer
}

// exactly returns all lists of runs of n ticks with the levels from 0 to the mask.
func exactly(n, mask int) [][]api.Run {
	if n == 0 {
		return [][]api.Run{nil}
	}
	var all [][]api.Run
	for k := 1; k <= n; k++ {
		for _, rest := range exactly(n-k, mask) {
			for level := range mask + 1 {
				all = append(all, append(runs(level, k), rest...))
			}
		}
	}
	return all
}

// short returns all captures of a number of channels of up to n ticks, in all divisions into runs.
func short(count, n int) []api.Capture {
	var all []api.Capture
	for k := range n + 1 {
		for _, l := range exactly(k, 1<<count-1) {
			all = append(all, with(count, l))
		}
	}
	return all
}

// shortOnes returns all captures of one channel of up to 5 ticks, of two of up to 4, and of three of up to 3.
func shortOnes() []api.Capture { return slices.Concat(short(1, 5), short(2, 4), short(3, 3)) }

// random returns a random valid capture of a number of channels, of up to n ticks, in a random division into runs.
func random(r *rand.Rand, count, n int) api.Capture {
	c := with(count, nil)
	r.Shuffle(count, func(i, j int) { c.Names[i], c.Names[j] = c.Names[j], c.Names[i] })
	level := r.Intn(1 << count)
	for rest := r.Intn(n + 1); rest > 0; {
		if r.Intn(4) > 0 {
			level ^= 1 << r.Intn(count)
		}
		k := 1 + r.Intn(min(rest, 5))
		c.Runs = append(c.Runs, api.Run{Level: level, Ticks: k})
		rest -= k
	}
	return c
}

// cell is the levels of all channels, a character for each, for some ticks.
type cell struct {
	levels string
	ticks  int
}

// drawn returns the levels of a capture of which each tick is k ticks long.
func drawn(c api.Capture, k int) []cell {
	var l []cell
	for _, r := range c.Runs {
		levels := []byte(fmt.Sprintf("%0*b", len(c.Names), r.Level))
		slices.Reverse(levels)
		l = append(l, slices.Repeat([]cell{{string(levels), k}}, r.Ticks)...)
	}
	return l
}

// read returns the clean capture with these levels.
func read(names []string, l []cell) api.Capture {
	c := api.Capture{Names: names}
	before := ""
	for _, x := range l {
		if x.ticks == 0 {
			continue
		}
		if x.levels != before {
			characters := []byte(x.levels)
			slices.Reverse(characters)
			level, _ := strconv.ParseInt(string(characters), 2, 32)
			c.Runs = append(c.Runs, api.Run{Level: int(level)})
		}
		c.Runs[len(c.Runs)-1].Ticks += x.ticks
		before = x.levels
	}
	return c
}

// cleaned returns the clean capture of the levels of a capture.
func cleaned(c api.Capture) api.Capture {
	joined := api.Capture{Names: c.Names}
	for i, r := range c.Runs {
		if i > 0 && r.Level == c.Runs[i-1].Level {
			joined.Runs[len(joined.Runs)-1].Ticks += r.Ticks
		} else {
			joined.Runs = append(joined.Runs, r)
		}
	}
	return joined
}

// times returns the greatest integer that is not greater than r * n.
func times(r api.Ratio, n int) int {
	product := new(big.Int).Mul(big.NewInt(int64(r.Num)), big.NewInt(int64(n)))
	return int(product.Div(product, big.NewInt(int64(r.Den))).Int64())
}

// text returns the beginnings of the names and of the runs of a capture.
func text(c api.Capture) string {
	return fmt.Sprintf("%q %v of %d", c.Names[:min(len(c.Names), 20)], c.Runs[:min(len(c.Runs), 10)], len(c.Runs))
}

// equal reports whether names and runs are the same.
func equal(a, b api.Capture) bool {
	return slices.Equal(a.Names, b.Names) && slices.Equal(a.Runs, b.Runs)
}

// gives reports an error unless a call returned exactly this capture.
func gives(t *testing.T, what string, c api.Capture, e api.Errno, want api.Capture) {
	t.Helper()
	if e != api.OK || !equal(c, want) {
		t.Errorf("%s: %s %d, not %s", what, text(c), e, text(want))
	}
}

// fails reports an error unless a call returned this error and the zero value.
func fails(t *testing.T, what string, c api.Capture, e, want api.Errno) {
	t.Helper()
	if len(c.Names) != 0 || len(c.Runs) != 0 || e != want {
		t.Errorf("%s: %s %d, not error %d", what, text(c), e, want)
	}
}

// faulty is a capture with the error that it must have.
type faulty struct {
	c api.Capture
	e api.Errno
}

// wrong returns captures that are not valid.
func wrong() []faulty {
	return []faulty{
		{api.Capture{}, api.ErrArg}, {api.Capture{Names: []string{}, Runs: runs(0, 1)}, api.ErrArg},
		{with(17, nil), api.ErrLimit}, {with(17, runs(1, 5)), api.ErrLimit}, {with(1, repeated(api.MaxRuns+1, 1, 0, 1)), api.ErrLimit}, {with(16, repeated(api.MaxRuns+1, 1, 5)), api.ErrLimit},
		{of("A"), api.ErrSyntax}, {of("a 1 b", 1, 1), api.ErrSyntax}, {of("a_long_name_of_17", 1, 1), api.ErrSyntax}, {of("a a B", 9, 9), api.ErrSyntax}, {api.Capture{Names: []string{"a", ""}}, api.ErrSyntax},
		{of("a a"), api.ErrDuplicate}, {of("a b c a", 1, 1), api.ErrDuplicate}, {of("b a a", 99, 0), api.ErrDuplicate},
		{of("a", 2, 1), api.ErrRange}, {of("a b", 3, 1, -1, 1), api.ErrRange}, {of("a", math.MaxInt, 1), api.ErrRange}, {of(letters[:31], 1<<16, 1), api.ErrRange},
		{of("a", 1, 0), api.ErrRange}, {of("a b", 1, 5, 1, 0), api.ErrRange}, {of("a", 0, -1), api.ErrRange}, {of("a", 1, 5, 0, -2, 1, 5), api.ErrRange}, {of("a", 1, math.MinInt), api.ErrRange},
		{of("a", 1, end+1), api.ErrRange}, {of("a", 1, end, 0, 1), api.ErrRange}, {of("a b", 1, 1, 0, end), api.ErrRange}, {of("a", 1, math.MaxInt, 0, math.MaxInt, 1, 3), api.ErrRange},
	}
}

// right returns valid captures: ordinary ones, and those at the limits of every field.
func right() []api.Capture {
	const n, k = api.MaxRuns, end / api.MaxRuns
	return []api.Capture{
		of("a"), of("b a c"), of("a b", 1, 3, 1, 2, 2, 4), of("a", 1, 8, 0, 4), of("a", 0, 1), of("a", 1, 1), of("b a", 2, 1, 1, 1), of("a_long_name_of16 a_long_name_of17", 1, 1, 0, 127, 0, 1),
		of("a", 0, end), of("a b", 3, 1<<31, 0, 1<<32, 2, 1<<33), of("a", 1, end-1, 0, 1), of("a", 0, end/2, 0, end/2), with(16, nil), with(16, runs(1<<16-1, end)),
		with(16, runs(1<<16-1, 1, 0, 2, 1<<15, 3, 1, 4, 0x5555, 5, 0xaaaa, end-15)), with(1, repeated(n, 1, 0, 1)), with(2, repeated(n, k, 0, 3, 2, 1, 1)), with(3, repeated(n-1, 1, 7, 6, 6, 0)), with(16, repeated(n, k, 1<<16-1)),
	}
}
