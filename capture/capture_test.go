package capture_test

import (
	"fmt"
	"math"
	"math/rand"
	"regexp"
	"slices"
	"strings"
	"testing"

	"signalbench/api"
	"signalbench/capture"
)

// P9.1
func TestCheck(t *testing.T) {
	for _, c := range slices.Concat(right(), short()) {
		if e := capture.Check(c); e != api.OK {
			t.Errorf("%s: %d", text(c), e)
		}
	}
	for _, x := range wrong() {
		if e := capture.Check(x.c); e != x.e {
			t.Errorf("%s: %d, not %d", text(x.c), e, x.e)
		}
	}
}

// P9.1
func TestCheckOfNames(t *testing.T) {
	name := regexp.MustCompile(`\A[a-z][a-z0-9_]{0,15}\z`)
	for b := range 256 {
		for _, s := range []string{string([]byte{byte(b)}), "a" + string([]byte{byte(b)}), strings.Repeat("x", 15) + string([]byte{byte(b)}), string([]byte{byte(b), 'a'})} {
			want := api.ErrSyntax
			if name.MatchString(s) {
				want = api.OK
			}
			if e := capture.Check(api.Capture{Names: []string{"first_name", s, "last_name"}}); e != want {
				t.Errorf("%q: %d, not %d", s, e, want)
			}
		}
	}
	for n := range 18 {
		want := api.OK
		switch {
		case n == 0:
			want = api.ErrArg
		case n > 16:
			want = api.ErrLimit
		}
		if e := capture.Check(of(n, nil)); e != want {
			t.Errorf("%d names: %d, not %d", n, e, want)
		}
	}
}

// P9.1
func TestCheckOfLevelsAndTicks(t *testing.T) {
	for n := 1; n <= 16; n++ {
		for _, level := range []int{-1, 0, 1, 1<<n - 2, 1<<n - 1, 1 << n, 1<<n + 1} {
			for _, k := range []int{-1, 0, 1, 2, 1 << 32, end - 1, end, end + 1} {
				want := api.ErrRange
				if level >= 0 && level < int(math.Pow(2, float64(n))) && k >= 1 && k <= end {
					want = api.OK
				}
				if e := capture.Check(of(n, runs(level, k))); e != want {
					t.Errorf("%d channels, %d for %d: %d, not %d", n, level, k, e, want)
				}
				if e := capture.Check(of(n, runs(0, 1, level, k))); (e == api.OK) != (want == api.OK && k < end) {
					t.Errorf("%d channels, %d for %d after another run: %d", n, level, k, e)
				}
			}
		}
	}
}

// defects returns names with some defects, which are bits: 1 too many, 2 none, 4 a wrong name, 8 two equal names.
func defects(bits int) []string {
	names := channels(3)
	if bits&1 > 0 {
		names = channels(17)
	}
	if bits&2 > 0 {
		names = nil
	}
	if bits&4 > 0 {
		names = append(names, "Wrong")
	}
	if bits&8 > 0 {
		names = append([]string{"b"}, names...)
	}
	return names
}

// P9.1
func TestOrderOfErrorsOfCheck(t *testing.T) {
	for bits := range 64 {
		c := api.Capture{Names: defects(bits & 15), Runs: runs(1, 2)}
		if bits&16 > 0 {
			c.Runs = append(c.Runs, runs(-1, 1)...)
		}
		if bits&32 > 0 {
			c.Runs = append(c.Runs, repeated(api.MaxRuns, 1, 0, 1)...)
		}
		want := api.OK
		switch {
		case len(c.Names) > 16 || bits&32 > 0:
			want = api.ErrLimit
		case len(c.Names) == 0:
			want = api.ErrArg
		case bits&4 > 0:
			want = api.ErrSyntax
		case bits&8 > 0 && len(c.Names) > 1:
			want = api.ErrDuplicate
		case bits&16 > 0 || len(c.Names) < 1:
			want = api.ErrRange
		}
		if e := capture.Check(c); e != want {
			t.Errorf("%s: %d, not %d", text(c), e, want)
		}
	}
	// Wrong names that are equal, and equal names before a wrong one.
	for _, names := range []string{"A A", "a a B", "B a a", "a B a", "a_ a_ 1"} {
		if e := capture.Check(named(names, -1, 0)); e != api.ErrSyntax {
			t.Errorf("%s: %d", names, e)
		}
	}
	if e := capture.Check(api.Capture{Names: slices.Repeat([]string{"A"}, 17), Runs: runs(-1, 0)}); e != api.ErrLimit {
		t.Error(e)
	}
	if e := capture.Check(api.Capture{Runs: runs(-1, 0)}); e != api.ErrArg {
		t.Error(e)
	}
}

// P9.2, P9.5
func TestNothingOfAWrongCapture(t *testing.T) {
	for _, x := range wrong() {
		if n, edges := capture.Long(x.c), capture.Edges(x.c); n != 0 || len(edges) != 0 {
			t.Errorf("%s: %d %s", text(x.c), n, brief(edges))
		}
		for _, at := range []int{math.MinInt, -1, 0, 1, end, math.MaxInt} {
			if level, ok := capture.At(x.c, at); level != -1 || ok {
				t.Errorf("%s at %d: %d %v", text(x.c), at, level, ok)
			}
		}
	}
}

// outside reports an error unless At returns no level before 0 and from the tick long on.
func outside(t *testing.T, c api.Capture, long int) {
	t.Helper()
	for _, at := range []int{math.MinInt, math.MinInt + 1, -end, -2, -1, long, long + 1, end, end + 1, math.MaxInt - 1, math.MaxInt} {
		if level, ok := capture.At(c, at); (at < 0 || at >= long) && (level != -1 || ok) {
			t.Errorf("%s at %d: %d %v", text(c), at, level, ok)
		}
	}
}

// P9.2, P9.5, P9.6
func TestExamples(t *testing.T) {
	c, e := capture.Build(channels(2), [][]api.Run{runs(1, 3, 0, 2), runs(0, 1, 1, 4)})
	gives(t, "Build", c, e, named("a b", 1, 1, 3, 2, 2, 2))
	equal(t, "Edges", capture.Edges(c), []api.Edge{{At: 1, Channel: 1, Level: 1}, {At: 3, Channel: 0, Level: 0}})
	for at, want := range []int{1, 3, 3, 2, 2} {
		if level, ok := capture.At(c, at); level != want || !ok {
			t.Errorf("%d: %d %v", at, level, ok)
		}
	}
	if level, ok := capture.At(c, 5); level != -1 || ok || capture.Long(c) != 5 {
		t.Error(level, ok, capture.Long(c))
	}
	s, e := capture.Slice(c, 1, 3)
	gives(t, "Slice", s, e, named("a b", 3, 2))
}

// P9.2, P9.3, P9.5
func TestShortCaptures(t *testing.T) {
	for _, c := range short() {
		levels := drawn(c.Runs)
		if n := capture.Long(c); n != len(levels) {
			t.Errorf("%s: %d ticks, not %d", text(c), n, len(levels))
		}
		for at, want := range levels {
			if level, ok := capture.At(c, at); level != want || !ok {
				t.Errorf("%s at %d: %d %v", text(c), at, level, ok)
			}
		}
		outside(t, c, len(levels))
		for i, name := range c.Names {
			l, e := capture.Channel(c, name)
			if equal(t, text(c)+" "+name, l, read(one(levels, i))); e != api.OK {
				t.Errorf("%s %s: %d", text(c), name, e)
			}
		}
		equal(t, text(c), capture.Edges(c), changed(levels, len(c.Names)))
	}
}

// P9.2, P9.3, P9.5
func TestLongestCaptures(t *testing.T) {
	for _, l := range exactly(4, 3) {
		levels, c := drawn(l), of(2, times(l, stretch))
		if n := capture.Long(c); n != end {
			t.Errorf("%s: %d ticks", text(c), n)
		}
		for i, want := range levels {
			for _, at := range []int{i * stretch, i*stretch + 1, (i+1)*stretch - 1} {
				if level, ok := capture.At(c, at); level != want || !ok {
					t.Errorf("%s at %d: %d %v", text(c), at, level, ok)
				}
			}
		}
		outside(t, c, end)
		for i, name := range c.Names {
			wave, e := capture.Channel(c, name)
			if equal(t, text(c)+" "+name, wave, times(read(one(levels, i)), stretch)); e != api.OK {
				t.Errorf("%s %s: %d", text(c), name, e)
			}
		}
		want := changed(levels, 2)
		for i := range want {
			want[i].At *= stretch
		}
		equal(t, text(c), capture.Edges(c), want)
	}
}

// P9.2, P9.3, P9.5
func TestManyRunsOfManyChannels(t *testing.T) {
	const n, k = api.MaxRuns, end / api.MaxRuns
	c := of(16, repeated(n, k, 0, 1<<16-1))
	if long := capture.Long(c); long != end {
		t.Error(long)
	}
	edges := capture.Edges(c)
	if len(edges) != 16*(n-1) {
		t.Fatal(len(edges))
	}
	for i, edge := range edges {
		if run := i/16 + 1; edge != (api.Edge{At: run * k, Channel: i % 16, Level: run % 2}) {
			t.Fatalf("%d: %v", i, edge)
		}
	}
	for i, name := range c.Names {
		l, e := capture.Channel(c, name)
		if equal(t, name, l, repeated(n, k, 0, 1)); e != api.OK {
			t.Errorf("%d: %d", i, e)
		}
	}
	for i := 0; i < n; i += n/8 - 1 {
		if level, ok := capture.At(c, i*k+k-1); level != i%2*(1<<16-1) || !ok {
			t.Errorf("%d: %d %v", i, level, ok)
		}
	}
	outside(t, c, end)
}

// P9.3
func TestChannel(t *testing.T) {
	c := named("clock data reset", 1, 3, 0, 1, 0, 1, 2, 5, 7, 1, 6, 2)
	for _, x := range []struct {
		name string
		want []api.Run
	}{{"clock", runs(1, 3, 0, 7, 1, 1, 0, 2)}, {"data", runs(0, 5, 1, 8)}, {"reset", runs(0, 10, 1, 3)}} {
		l, e := capture.Channel(c, x.name)
		if equal(t, x.name, l, x.want); e != api.OK {
			t.Errorf("%s: %d", x.name, e)
		}
	}
	for _, name := range []string{"", "c", "cloc", "clock_", "Clock", "clock ", " clock", "z", "0", "dat\x00", "clock data", strings.Repeat("a", 17)} {
		if l, e := capture.Channel(c, name); len(l) != 0 || e != api.ErrNotFound {
			t.Errorf("%q: %s %d", name, brief(l), e)
		}
	}
	for _, name := range channels(16) {
		if l, e := capture.Channel(of(16, nil), name); len(l) != 0 || e != api.OK {
			t.Errorf("%s of no runs: %s %d", name, brief(l), e)
		}
	}
	if l, e := capture.Channel(of(16, nil), "q"); len(l) != 0 || e != api.ErrNotFound {
		t.Errorf("no runs: %s %d", brief(l), e)
	}
}

// P9.3
func TestChannelOfAWrongCapture(t *testing.T) {
	for _, x := range wrong() {
		for _, name := range append([]string{"", noName, "A"}, x.c.Names...) {
			if l, e := capture.Channel(x.c, name); len(l) != 0 || e != x.e {
				t.Errorf("%s %q: %s %d, not %d", text(x.c), name, brief(l), e, x.e)
			}
		}
	}
}

// P9.6
func TestSlice(t *testing.T) {
	c := named("b a", 1, 3, 0, 1, 0, 1, 2, 5, 3, 1)
	for _, x := range []struct {
		from, to int
		want     []api.Run
	}{
		{0, 11, runs(1, 3, 0, 2, 2, 5, 3, 1)}, {0, 3, runs(1, 3)}, {0, 1, runs(1, 1)}, {2, 4, runs(1, 1, 0, 1)}, {3, 5, runs(0, 2)}, {4, 6, runs(0, 1, 2, 1)}, {4, 11, runs(0, 1, 2, 5, 3, 1)}, {10, 11, runs(3, 1)}, {6, 9, runs(2, 3)},
	} {
		s, e := capture.Slice(c, x.from, x.to)
		gives(t, fmt.Sprint(x.from, " to ", x.to), s, e, named("b a", flat(x.want)...))
	}
	for _, x := range [][2]int{
		{0, 0}, {5, 5}, {11, 11}, {5, 4}, {11, 0}, {-1, 3}, {-1, 0}, {-5, -1}, {0, 12}, {11, 12}, {10, 12}, {12, 13}, {0, -1}, {-1, 12}, {end, end + 1}, {0, end}, {0, math.MaxInt}, {math.MinInt, 11}, {math.MinInt, math.MaxInt},
		{math.MaxInt, math.MinInt}, {math.MaxInt, math.MaxInt}, {math.MinInt, math.MinInt}, {5, math.MinInt}, {math.MaxInt, 5}, {math.MinInt, 5}, {5, math.MaxInt},
	} {
		s, e := capture.Slice(c, x[0], x[1])
		fails(t, fmt.Sprint(x), s, e, api.ErrRange)
		s, e = capture.Slice(named("a"), x[0], x[1])
		fails(t, fmt.Sprint("no runs: ", x), s, e, api.ErrRange)
	}
}

// flat returns the levels and ticks of runs, which alternate.
func flat(l []api.Run) []int {
	var n []int
	for _, r := range l {
		n = append(n, r.Level, r.Ticks)
	}
	return n
}

// P9.6
func TestSliceOfShortCaptures(t *testing.T) {
	for _, c := range short() {
		levels := drawn(c.Runs)
		for from := -2; from <= len(levels)+2; from++ {
			for to := -2; to <= len(levels)+2; to++ {
				s, e := capture.Slice(c, from, to)
				if what := fmt.Sprint(text(c), from, to); from < 0 || from >= to || to > len(levels) {
					fails(t, what, s, e, api.ErrRange)
				} else {
					gives(t, what, s, e, of(len(c.Names), read(levels[from:to])))
				}
			}
		}
	}
}

// P9.6
func TestSliceOfLongestCaptures(t *testing.T) {
	for _, l := range exactly(4, 3) {
		c := of(2, times(l, stretch))
		for from := range 5 {
			for to := from + 1; to < 5; to++ {
				s, e := capture.Slice(c, from*stretch, to*stretch)
				gives(t, fmt.Sprint(text(c), from, to), s, e, of(2, times(read(drawn(l)[from:to]), stretch)))
			}
		}
		s, e := capture.Slice(c, end-1, end)
		gives(t, text(c)+" last tick", s, e, of(2, runs(l[len(l)-1].Level, 1)))
		s, e = capture.Slice(c, 0, end+1)
		fails(t, text(c)+" too much", s, e, api.ErrRange)
	}
	l := repeated(api.MaxRuns, 2, 0, 3, 1)
	s, e := capture.Slice(of(2, l), 1, 2*api.MaxRuns-1)
	gives(t, "many runs", s, e, of(2, slices.Concat(runs(0, 1), l[1:api.MaxRuns-1], runs(l[api.MaxRuns-1].Level, 1))))
}

// P9.6
func TestSliceOfAWrongCapture(t *testing.T) {
	for _, x := range wrong() {
		for _, bounds := range [][2]int{{0, 1}, {0, 0}, {-1, 5}, {0, math.MaxInt}, {5, -5}} {
			s, e := capture.Slice(x.c, bounds[0], bounds[1])
			fails(t, fmt.Sprint(text(x.c), bounds), s, e, x.e)
		}
	}
}

// P9.7
func TestSame(t *testing.T) {
	c := named("a b", 1, 3, 1, 2, 2, 4)
	for _, x := range []struct {
		d    api.Capture
		want bool
	}{
		{c, true}, {named("a b", 1, 5, 2, 4), true}, {named("a b", 1, 1, 1, 4, 2, 1, 2, 3), true},
		{named("b a", 1, 5, 2, 4), false}, {named("a c", 1, 5, 2, 4), false}, {named("a b c", 1, 5, 2, 4), false}, {named("c a b", 1, 5, 2, 4), false}, {named("a b_", 1, 5, 2, 4), false},
		{named("a b", 1, 5, 2, 3), false}, {named("a b", 1, 5, 2, 5), false}, {named("a b", 1, 5, 2, 4, 1, 1), false}, {named("a b", 1, 5), false}, {named("a b"), false},
		{named("a b", 1, 4, 2, 5), false}, {named("a b", 1, 5, 3, 4), false}, {named("a b", 0, 5, 2, 4), false}, {named("a b", 1, 5, 2, 3, 0, 1), false}, {named("a b", 2, 5, 1, 4), false}, {named("a b", 2, 1, 1, 4, 2, 4), false},
		{named("a", 1, 5, 0, 4), false}, {named("a b", 1, 2, 2, 1, 1, 2, 2, 4), false},
	} {
		if capture.Same(c, x.d) != x.want || capture.Same(x.d, c) != x.want {
			t.Errorf("%s: not %v", text(x.d), x.want)
		}
	}
	if !capture.Same(named("a b"), named("a b")) || capture.Same(named("a b"), named("b a")) || capture.Same(named("a"), named("b")) || capture.Same(named("a"), named("a b")) {
		t.Error("captures without runs")
	}
}

// P9.7
func TestSameOfShortCaptures(t *testing.T) {
	var all []api.Capture
	for k := range 4 {
		for _, l := range exactly(k, 3) {
			all = append(all, of(2, l))
		}
	}
	for _, a := range all {
		for _, b := range all {
			want := slices.Equal(drawn(a.Runs), drawn(b.Runs))
			if capture.Same(a, b) != want {
				t.Errorf("%s %s: not %v", text(a), text(b), want)
			}
			if stretched := capture.Same(of(2, times(a.Runs, end/3)), of(2, times(b.Runs, end/3))); stretched != want {
				t.Errorf("%s %s: %v", text(a), text(b), stretched)
			}
		}
	}
}

// P9.7
func TestSameOfLongCaptures(t *testing.T) {
	const n, k = api.MaxRuns, end / api.MaxRuns
	l := repeated(n, k, 0, 3, 1, 2)
	for i := range 9 {
		other := slices.Clone(l)
		if other[i*(n-1)/8].Level ^= 1; capture.Same(of(2, l), of(2, other)) {
			t.Errorf("another level: %d", i)
		}
		other = slices.Clone(l)
		if other[i*(n-1)/8].Ticks--; capture.Same(of(2, l), of(2, other)) {
			t.Errorf("a missing tick: %d", i)
		}
	}
	if !capture.Same(of(2, l), of(2, slices.Clone(l))) || !capture.Same(of(2, repeated(n, k, 3)), named("a b", 3, end)) || !capture.Same(of(1, runs(1, end)), of(1, repeated(n, k, 1))) {
		t.Error("many runs")
	}
}

// P9.7
func TestSameOfWrongCaptures(t *testing.T) {
	for _, c := range right() {
		if !capture.Same(c, c) {
			t.Errorf("not the same: %s", text(c))
		}
	}
	for _, x := range wrong() {
		valid := of(max(1, min(len(x.c.Names), 16)), nil)
		if capture.Same(x.c, x.c) || capture.Same(x.c, valid) || capture.Same(valid, x.c) {
			t.Errorf("the same: %s", text(x.c))
		}
	}
	// A wrong capture is not the same as a valid one with the levels that it seems to have.
	for _, x := range [][2]api.Capture{{named("a", 0, 5, 1, -3), named("a", 0, 2)}, {named("a", 0, 5, 1, 0), named("a", 0, 5)}, {named("a", 0, 5, 0, 0), named("a", 0, 5)}, {named("a", 0, end, 0, 1), named("a", 0, end)}, {named("a", 1, 5, 2, 3), named("a", 1, 5, 0, 3)}} {
		if capture.Same(x[0], x[1]) || capture.Same(x[1], x[0]) {
			t.Errorf("%s %s", text(x[0]), text(x[1]))
		}
	}
}

// P9.9
func TestEdgesDetermineTheLevels(t *testing.T) {
	r := rand.New(rand.NewSource(99))
	all := slices.Concat(right(), short())
	for i := range 1000 {
		all = append(all, random(r, 1+i%60))
	}
	for _, c := range all {
		level, ok := capture.At(c, 0)
		if ok != (len(c.Runs) > 0) {
			t.Errorf("%s: %v", text(c), ok)
		}
		if !ok {
			continue
		}
		again, begin := api.Capture{Names: c.Names}, 0
		for _, edge := range capture.Edges(c) {
			if edge.At > begin {
				again.Runs = append(again.Runs, api.Run{Level: level, Ticks: edge.At - begin})
				begin = edge.At
			}
			if bit := 1 << edge.Channel; edge.Level == 0 {
				level &^= bit
			} else {
				level |= bit
			}
		}
		again.Runs = append(again.Runs, api.Run{Level: level, Ticks: capture.Long(c) - begin})
		if !capture.Same(c, again) {
			t.Errorf("%s, not %s", text(again), text(c))
		}
	}
}

// P9.9
func TestEdgesTellLevelsApart(t *testing.T) {
	for k := 1; k <= 3; k++ {
		for _, l := range exactly(k, 3) {
			for _, m := range exactly(k, 3) {
				a, b := of(2, l), of(2, m)
				first, _ := capture.At(a, 0)
				other, _ := capture.At(b, 0)
				if equal := first == other && slices.Equal(capture.Edges(a), capture.Edges(b)); equal != slices.Equal(drawn(l), drawn(m)) {
					t.Errorf("%v %v: %v", l, m, equal)
				}
			}
		}
	}
}
