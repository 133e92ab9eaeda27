package wave_test

import (
	"fmt"
	"math"
	"math/rand"
	"regexp"
	"slices"
	"strings"
	"testing"

	"signalbench/api"
	"signalbench/wave"
)

const end = api.MaxTime

// stretch is the factor by which the waves of 8 ticks become those of the greatest length.
const stretch = end / 8

// w returns the wave of these levels and ticks, which alternate.
func w(n ...int) []api.Run {
	var l []api.Run
	for i := 0; i < len(n); i += 2 {
		l = append(l, api.Run{Level: n[i], Ticks: n[i+1]})
	}
	return l
}

// times returns the wave l with its ticks multiplied by k.
func times(l []api.Run, k int) []api.Run {
	var r []api.Run
	for _, x := range l {
		r = append(r, api.Run{Level: x.Level, Ticks: k * x.Ticks})
	}
	return r
}

// alternating returns the wave of n runs of k ticks each whose levels alternate.
func alternating(n, k int) []api.Run {
	return slices.Repeat(w(0, k, 1, k), n/2+1)[:n]
}

// exactly returns all valid waves of n ticks.
func exactly(n int) [][]api.Run {
	if n == 0 {
		return [][]api.Run{nil}
	}
	var all [][]api.Run
	for k := 1; k <= n; k++ {
		for _, rest := range exactly(n - k) {
			all = append(all, append(w(0, k), rest...), append(w(1, k), rest...))
		}
	}
	return all
}

// short returns all valid waves of at most n ticks.
func short(n int) [][]api.Run {
	var all [][]api.Run
	for k := range n + 1 {
		all = append(all, exactly(k)...)
	}
	return all
}

// random returns a random valid wave of up to n runs.
func random(r *rand.Rand, n int) []api.Run {
	var l []api.Run
	shift := r.Intn(40)
	for range r.Intn(n + 1) {
		ticks := 1 + r.Intn(end/n)>>shift
		l = append(l, api.Run{Level: r.Intn(2), Ticks: ticks})
	}
	return l
}

// drawn returns the levels of a short valid wave as text, a character for each tick.
func drawn(l []api.Run) string {
	var s strings.Builder
	for _, r := range l {
		s.WriteString(strings.Repeat(string(rune('0'+r.Level)), r.Ticks))
	}
	return s.String()
}

var equalLevels = regexp.MustCompile("0+|1+")

// read returns the clean wave with the levels of a text.
func read(s string) []api.Run {
	var l []api.Run
	for _, part := range equalLevels.FindAllString(s, -1) {
		l = append(l, w(int(part[0]-'0'), len(part))...)
	}
	return l
}

// changes returns the indices of the characters of s that differ from the ones before them.
func changes(s string) []int {
	var l []int
	for i := range s {
		if i > 0 && s[i] != s[i-1] {
			l = append(l, i)
		}
	}
	return l
}

// ticksOf returns what Slice must return for a short valid wave, tick by tick.
func ticksOf(l []api.Run, from, to int) []api.Run {
	var part []api.Run
	at := 0
	for _, r := range l {
		n := 0
		for range r.Ticks {
			if at >= from && at < to {
				n++
			}
			at++
		}
		if n > 0 {
			part = append(part, w(r.Level, n)...)
		}
	}
	return part
}

// brief returns the beginning and the length of a list as text.
func brief[T any](l []T) string { return fmt.Sprint(l[:min(len(l), 10)], " of ", len(l)) }

// equal reports an error unless the waves have the same runs.
func equal(t *testing.T, what string, l, want []api.Run) {
	t.Helper()
	if !slices.Equal(l, want) {
		t.Errorf("%s: %s, not %s", what, brief(l), brief(want))
	}
}

// fails reports an error unless a call returned no runs and this error.
func fails(t *testing.T, what string, l []api.Run, e, want api.Errno) {
	t.Helper()
	if len(l) != 0 || e != want {
		t.Errorf("%s: %s %d, not error %d", what, brief(l), e, want)
	}
}

// right returns valid waves: ordinary ones, and those at the limits of every field.
func right() [][]api.Run {
	return [][]api.Run{
		nil, {}, w(0, 1), w(1, 1), w(1, 8, 1, 2, 0, 4), w(0, 1, 0, 1), w(1, 1<<31, 0, 1<<32),
		w(0, end), w(1, end), w(0, end-1, 1, 1), w(1, 1, 0, end-1), w(0, 1, 0, end-2, 0, 1), w(1, end/2, 1, end/2),
		alternating(api.MaxRuns, 1), alternating(api.MaxRuns-1, 1), alternating(api.MaxRuns, end/api.MaxRuns),
		slices.Repeat(w(1, 1), api.MaxRuns), slices.Repeat(w(0, end/api.MaxRuns), api.MaxRuns), times(w(0, 3, 1, 2, 1, 2, 0, 1), stretch),
	}
}

// wrong returns waves that are not valid, most of them because of one run.
func wrong() [][]api.Run {
	l := [][]api.Run{
		w(0, end, 1, 1), w(0, 1, 1, end), w(0, end, 0, 1), w(0, end, 1, end), w(0, end/2, 1, end/2, 0, 1), append(alternating(api.MaxRuns-1, end/(api.MaxRuns-1)), w(0, end)...),
		// Sums that are small only where integers overflow, and sums with negative parts.
		w(0, math.MaxInt, 1, math.MaxInt, 0, 3), w(0, 1, 1, math.MaxInt, 0, math.MaxInt, 1, 2), w(0, 5, 1, -3, 0, 4), w(0, -3, 1, 5), w(0, end+1, 1, -1), w(0, -1, 1, end+1), w(0, math.MinInt, 1, math.MinInt, 0, 5),
		alternating(api.MaxRuns+1, 1), slices.Repeat(w(1, 1), api.MaxRuns+1), slices.Repeat(w(0, 1), 2*api.MaxRuns), slices.Repeat(w(1, 1<<62), 4), slices.Repeat(w(0, 1<<62, 1, 1), 4),
		append(alternating(api.MaxRuns-1, 1), w(2, 1)...), append(alternating(api.MaxRuns-1, 1), w(1, 0)...), {{}}, {{}, {}},
	}
	var runs []api.Run
	for _, n := range []int{math.MinInt, -1 << 32, -256, -2, -1, 2, 3, 48, 49, 256, 257, 1 << 32, 1<<32 + 1, math.MaxInt} {
		runs = append(runs, w(n, 1, n, 5, n, 0, n, n)...)
	}
	for _, n := range []int{math.MinInt, math.MinInt + 1, -end, -1 << 32, -2, -1, 0, end + 1, end + 2, 2 * end, 1 << 53, 1 << 62, math.MaxInt - 1, math.MaxInt} {
		runs = append(runs, w(0, n, 1, n)...)
	}
	for _, r := range runs {
		l = append(l, []api.Run{r}, append(w(0, 2), r), append(w(1, 2, 0, 1), r), append([]api.Run{r}, w(0, 3)...), append([]api.Run{{Level: 1, Ticks: 3}, r}, w(0, 3, 0, 2)...), []api.Run{r, r})
	}
	return l
}

// P8.1
func TestValid(t *testing.T) {
	for _, l := range slices.Concat(right(), short(7)) {
		if !wave.Valid(l) {
			t.Errorf("not valid: %s", brief(l))
		}
	}
	for _, l := range wrong() {
		if wave.Valid(l) {
			t.Errorf("valid: %s", brief(l))
		}
	}
}

// P8.1
func TestValidOfLevelsAndTicks(t *testing.T) {
	for level := -3; level <= 4; level++ {
		for _, k := range []int{-2, -1, 0, 1, 2, 1 << 31, 1 << 32, end - 1, end, end + 1, end + 2} {
			want := (level == 0 || level == 1) && k >= 1 && k <= end
			if wave.Valid(w(level, k)) != want {
				t.Errorf("%d for %d: not %v", level, k, want)
			}
			if both := wave.Valid(w(0, 1, level, k)); both != (want && k < end) {
				t.Errorf("%d for %d after another run: %v", level, k, both)
			}
		}
	}
}

// P8.2, P8.3, P8.5
func TestNothingOfAWrongWave(t *testing.T) {
	for _, l := range wrong() {
		if r, edges, n := wave.Clean(l), wave.Edges(l), wave.Long(l); len(r) != 0 || len(edges) != 0 || n != 0 {
			t.Errorf("%s: %s %s %d", brief(l), brief(r), brief(edges), n)
		}
		if r := wave.Invert(l); len(r) != 0 {
			t.Errorf("%s inverted: %s", brief(l), brief(r))
		}
		for _, at := range []int{math.MinInt, -1, 0, 1, end, math.MaxInt} {
			if level, ok := wave.At(l, at); level != -1 || ok {
				t.Errorf("%s at %d: %d %v", brief(l), at, level, ok)
			}
			if r := wave.Slice(l, 0, at); len(r) != 0 {
				t.Errorf("%s before %d: %s", brief(l), at, brief(r))
			}
			if r := wave.Slice(l, at, math.MaxInt); len(r) != 0 {
				t.Errorf("%s from %d: %s", brief(l), at, brief(r))
			}
		}
	}
}

// P8.2
func TestExample(t *testing.T) {
	l := w(1, 8, 1, 2, 0, 4)
	equal(t, "Clean", wave.Clean(l), w(1, 10, 0, 4))
	if n, edges := wave.Long(l), wave.Edges(l); n != 14 || !slices.Equal(edges, []int{10}) {
		t.Errorf("%d %v", n, edges)
	}
	for _, x := range []struct {
		at, level int
		ok        bool
	}{{0, 1, true}, {9, 1, true}, {10, 0, true}, {13, 0, true}, {14, -1, false}, {-1, -1, false}} {
		if level, ok := wave.At(l, x.at); level != x.level || ok != x.ok {
			t.Errorf("%d: %d %v", x.at, level, ok)
		}
	}
	if edges := wave.Edges(w(1, 8, 0, 4)); !slices.Equal(edges, []int{8}) {
		t.Error(edges)
	}
}

// P8.2
func TestShortWaves(t *testing.T) {
	for _, l := range short(8) {
		s := drawn(l)
		equal(t, brief(l), wave.Clean(l), read(s))
		if n := wave.Long(l); n != len(s) {
			t.Errorf("%v: %d ticks, not %d", l, n, len(s))
		}
		if edges := wave.Edges(l); !slices.Equal(edges, changes(s)) {
			t.Errorf("%v: %v, not %v", l, edges, changes(s))
		}
		for at := range s {
			if level, ok := wave.At(l, at); level != int(s[at]-'0') || !ok {
				t.Errorf("%v at %d: %d %v", l, at, level, ok)
			}
		}
		outside(t, l, len(s))
	}
}

// outside reports an error unless At returns no level before 0 and from the tick long on.
func outside(t *testing.T, l []api.Run, long int) {
	t.Helper()
	for _, at := range []int{math.MinInt, math.MinInt + 1, -end, -2, -1, long, long + 1, end, end + 1, math.MaxInt - 1, math.MaxInt} {
		if level, ok := wave.At(l, at); (at < 0 || at >= long) && (level != -1 || ok) {
			t.Errorf("%s at %d: %d %v", brief(l), at, level, ok)
		}
	}
}

// P8.2
func TestLongestWaves(t *testing.T) {
	for _, l := range exactly(8) {
		s, long := drawn(l), times(l, stretch)
		equal(t, brief(long), wave.Clean(long), times(read(s), stretch))
		if n := wave.Long(long); n != end {
			t.Errorf("%v: %d ticks", long, n)
		}
		want := changes(s)
		for i := range want {
			want[i] *= stretch
		}
		if edges := wave.Edges(long); !slices.Equal(edges, want) {
			t.Errorf("%v: %v, not %v", long, edges, want)
		}
		for i := range s {
			for _, at := range []int{i * stretch, i*stretch + 1, (i+1)*stretch - 1} {
				if level, ok := wave.At(long, at); level != int(s[i]-'0') || !ok {
					t.Errorf("%v at %d: %d %v", long, at, level, ok)
				}
			}
		}
		outside(t, long, end)
	}
}

// P8.2
func TestManyRuns(t *testing.T) {
	const n, k = api.MaxRuns, end / api.MaxRuns
	l := alternating(n, k)
	equal(t, "alternating", wave.Clean(l), l)
	equal(t, "equal", wave.Clean(slices.Repeat(w(1, k), n)), w(1, end))
	equal(t, "pairs", wave.Clean(slices.Repeat(w(0, 1, 0, 2, 1, 3, 1, 4), n/4)), slices.Repeat(w(0, 3, 1, 7), n/4))
	edges := wave.Edges(l)
	if len(edges) != n-1 || wave.Long(l) != end || len(wave.Edges(slices.Repeat(w(1, k), n))) != 0 {
		t.Fatal(len(edges), wave.Long(l))
	}
	for i, at := range edges {
		if at != (i+1)*k {
			t.Fatalf("%d: %d", i, at)
		}
	}
	for i := 0; i < n; i += n/8 - 1 {
		if level, ok := wave.At(l, i*k+k-1); level != i%2 || !ok {
			t.Errorf("%d: %d %v", i, level, ok)
		}
	}
}

// P8.3
func TestSlice(t *testing.T) {
	l := w(1, 8, 1, 2, 0, 4)
	for _, x := range []struct {
		from, to int
		want     []api.Run
	}{
		{9, 100, w(1, 1, 0, 4)}, {3, 9, w(1, 5, 1, 1)}, {0, 14, l}, {-5, 20, l}, {math.MinInt, math.MaxInt, l}, {0, 8, w(1, 8)}, {8, 10, w(1, 2)}, {10, 14, w(0, 4)},
		{7, 11, w(1, 1, 1, 2, 0, 1)}, {-3, 1, w(1, 1)}, {13, math.MaxInt, w(0, 1)}, {math.MinInt, 9, w(1, 8, 1, 1)}, {11, 12, w(0, 1)},
		{0, 0, nil}, {5, 5, nil}, {8, 8, nil}, {14, 14, nil}, {9, 3, nil}, {14, 20, nil}, {15, 20, nil}, {-5, 0, nil}, {-5, -1, nil}, {20, -5, nil}, {14, 0, nil}, {20, 5, nil},
		{math.MaxInt, math.MinInt, nil}, {math.MaxInt, math.MaxInt, nil}, {math.MinInt, math.MinInt, nil}, {math.MinInt, 0, nil}, {14, math.MaxInt, nil}, {0, math.MinInt, nil}, {math.MaxInt, 0, nil}, {5, math.MinInt, nil}, {math.MaxInt, 5, nil},
	} {
		equal(t, fmt.Sprint(x.from, " to ", x.to), wave.Slice(l, x.from, x.to), x.want)
	}
	for _, b := range []int{math.MinInt, -1, 0, 1, math.MaxInt} {
		equal(t, "no runs", wave.Slice(nil, b, 5), nil)
		equal(t, "no runs", wave.Slice([]api.Run{}, -5, b), nil)
	}
}

// P8.3
func TestSliceOfShortWaves(t *testing.T) {
	for _, l := range short(6) {
		for from := -2; from <= 8; from++ {
			for to := -2; to <= 8; to++ {
				equal(t, fmt.Sprint(l, from, to), wave.Slice(l, from, to), ticksOf(l, from, to))
			}
		}
	}
}

// P8.3
func TestSliceOfLongestWaves(t *testing.T) {
	bounds := []int{math.MinInt, -1, 0, 1, 3*stretch - 1, 3 * stretch, 3*stretch + 1, 4 * stretch, end - 1, end, end + 1, math.MaxInt}
	for _, l := range exactly(8) {
		long := times(l, stretch)
		for _, from := range bounds {
			for _, to := range bounds {
				part := wave.Slice(long, from, to)
				ticks := min(max(to, 0), end) - min(max(from, 0), end)
				if wave.Long(part) != max(ticks, 0) {
					t.Errorf("%v %d %d: %v", long, from, to, part)
				}
			}
		}
		for from := range 9 {
			for to := range 9 {
				equal(t, fmt.Sprint(long, from, to), wave.Slice(long, from*stretch, to*stretch), times(ticksOf(l, from, to), stretch))
			}
		}
	}
	l := alternating(api.MaxRuns, 2)
	equal(t, "many runs", wave.Slice(l, 1, 2*api.MaxRuns-1), slices.Concat(w(0, 1), l[1:api.MaxRuns-1], w(1, 1)))
}

// P8.4
func TestJoin(t *testing.T) {
	for _, x := range []struct{ a, b, want []api.Run }{
		{nil, nil, nil}, {[]api.Run{}, nil, nil}, {w(1, 5), nil, w(1, 5)}, {nil, w(1, 5), w(1, 5)}, {w(1, 5), w(0, 2), w(1, 5, 0, 2)}, {w(1, 5), w(1, 2), w(1, 7)},
		{w(0, 1, 1, 2), w(1, 3, 0, 4), w(0, 1, 1, 5, 0, 4)}, {w(0, 1, 0, 2), w(0, 3, 0, 4), w(0, 10)}, {w(0, 1, 0, 2), w(1, 3, 1, 4), w(0, 3, 1, 7)}, {nil, w(1, 2, 1, 3), w(1, 5)}, {w(1, 2, 1, 3), nil, w(1, 5)},
		{w(0, end-1), w(1, 1), w(0, end-1, 1, 1)}, {w(0, 1), w(0, end-1), w(0, end)}, {w(1, end/2), w(1, end/2), w(1, end)}, {w(1, end), nil, w(1, end)}, {nil, w(0, end), w(0, end)},
		{alternating(api.MaxRuns-1, 1), w(1, 3), append(alternating(api.MaxRuns-1, 1), w(1, 3)...)}, {alternating(api.MaxRuns, 4), nil, alternating(api.MaxRuns, 4)},
		{alternating(api.MaxRuns/2, 1), alternating(api.MaxRuns/2, 1), alternating(api.MaxRuns, 1)}, {w(0, 3), slices.Repeat(w(0, 1), api.MaxRuns-1), w(0, api.MaxRuns+2)},
	} {
		l, e := wave.Join(x.a, x.b)
		if equal(t, brief(x.a)+" "+brief(x.b), l, x.want); e != api.OK {
			t.Errorf("%s %s: %d", brief(x.a), brief(x.b), e)
		}
	}
}

// P8.4
func TestJoinOfShortWaves(t *testing.T) {
	for _, a := range short(4) {
		for _, b := range short(4) {
			l, e := wave.Join(a, b)
			if equal(t, fmt.Sprint(a, b), l, read(drawn(a)+drawn(b))); e != api.OK {
				t.Errorf("%v %v: %d", a, b, e)
			}
		}
	}
}

// P8.4
func TestJoinOfTooMuch(t *testing.T) {
	full, equals := alternating(api.MaxRuns, 1), slices.Repeat(w(1, 1), api.MaxRuns)
	for _, x := range []struct {
		a, b []api.Run
		e    api.Errno
	}{
		{w(0, end), w(1, 1), api.ErrRange}, {w(0, 1), w(1, end), api.ErrRange}, {w(0, end), w(0, 1), api.ErrRange}, {w(0, end), w(1, end), api.ErrRange}, {w(0, 3, 1, end/2), w(0, end/2-2), api.ErrRange},
		{full, w(0, 1), api.ErrLimit}, {full, w(1, 1), api.ErrLimit}, {w(0, 1), full, api.ErrLimit}, {full, full, api.ErrLimit}, {equals, w(1, 1), api.ErrLimit}, {equals, equals, api.ErrLimit},
		{alternating(api.MaxRuns/2+1, 1), alternating(api.MaxRuns/2, 1), api.ErrLimit},
		// The number of runs is judged before the number of ticks.
		{full, w(0, end), api.ErrLimit}, {w(0, end), equals, api.ErrLimit}, {times(full, end/api.MaxRuns), times(full, end/api.MaxRuns), api.ErrLimit},
		{append(alternating(api.MaxRuns/2-1, 1), w(1, end/2)...), append(alternating(api.MaxRuns/2-1, 1), w(1, end/2)...), api.ErrRange},
	} {
		l, e := wave.Join(x.a, x.b)
		fails(t, brief(x.a)+" "+brief(x.b), l, e, x.e)
	}
}

// P8.4
func TestJoinOfWrongWaves(t *testing.T) {
	// The errors of a and b precede those of both together.
	others := [][]api.Run{nil, w(0, 1), w(1, end), alternating(api.MaxRuns, 1), w(2, 1), w(0, end+1)}
	for _, l := range wrong() {
		for _, other := range others {
			r, e := wave.Join(l, other)
			fails(t, brief(l)+" "+brief(other), r, e, api.ErrArg)
			r, e = wave.Join(other, l)
			fails(t, brief(other)+" "+brief(l), r, e, api.ErrArg)
		}
	}
}

// P8.5
func TestInvert(t *testing.T) {
	equal(t, "example", wave.Invert(w(1, 8, 1, 2, 0, 4)), w(0, 8, 0, 2, 1, 4))
	for _, l := range slices.Concat(right(), short(7)) {
		var want []api.Run
		for _, r := range l {
			want = append(want, w([]int{1, 0}[r.Level], r.Ticks)...)
		}
		inverted := wave.Invert(l)
		equal(t, brief(l), inverted, want)
		equal(t, brief(l), wave.Invert(inverted), l)
	}
}

// P8.6
func TestFromEdges(t *testing.T) {
	for _, x := range []struct {
		first int
		edges []int
		long  int
		want  []api.Run
	}{
		{0, []int{3, 5}, 9, w(0, 3, 1, 2, 0, 4)}, {1, []int{3, 5}, 9, w(1, 3, 0, 2, 1, 4)}, {1, []int{8}, 12, w(1, 8, 0, 4)}, {0, nil, 9, w(0, 9)}, {1, []int{}, 9, w(1, 9)}, {0, nil, 1, w(0, 1)},
		{0, nil, 0, nil}, {1, []int{}, 0, nil}, {0, []int{1}, 2, w(0, 1, 1, 1)}, {1, []int{1, 2}, 3, w(1, 1, 0, 1, 1, 1)}, {1, nil, end, w(1, end)}, {0, []int{end - 1}, end, w(0, end-1, 1, 1)},
		{0, []int{1}, end, w(0, 1, 1, end-1)}, {1, []int{1, end - 1}, end, w(1, 1, 0, end-2, 1, 1)}, {0, []int{1 << 31, 1 << 32}, 1 << 33, w(0, 1<<31, 1, 1<<31, 0, 1<<32)},
	} {
		l, e := wave.FromEdges(x.first, x.edges, x.long)
		if equal(t, fmt.Sprint(x.first, x.edges, x.long), l, x.want); e != api.OK {
			t.Errorf("%d %v %d: %d", x.first, x.edges, x.long, e)
		}
	}
}

// P8.6
func TestFromManyEdges(t *testing.T) {
	const n, k = api.MaxRuns, end / api.MaxRuns
	var edges []int
	for i := range n - 1 {
		edges = append(edges, (i+1)*k)
	}
	l, e := wave.FromEdges(0, edges, end)
	if equal(t, "many edges", l, alternating(n, k)); e != api.OK {
		t.Error(e)
	}
	more := append(edges, end-1)
	l, e = wave.FromEdges(0, more, end)
	fails(t, "too many edges", l, e, api.ErrLimit)
	// The number of edges is judged before their order.
	l, e = wave.FromEdges(1, more, 5)
	fails(t, "too many edges for 5 ticks", l, e, api.ErrLimit)
	l, e = wave.FromEdges(1, make([]int, 2*n), 0)
	fails(t, "many equal edges", l, e, api.ErrLimit)
	l, e = wave.FromEdges(1, edges, 5)
	fails(t, "edges after the end", l, e, api.ErrOrder)
}

// P8.6
func TestFromAllFewEdges(t *testing.T) {
	for long := -1; long <= 6; long++ {
		for a := -2; a <= 7; a++ {
			fromEdges(t, []int{a}, long)
			for b := -2; b <= 7; b++ {
				fromEdges(t, []int{a, b}, long)
				for c := -2; c <= 7; c++ {
					fromEdges(t, []int{a, b, c}, long)
				}
			}
		}
	}
}

// fromEdges compares FromEdges with a text in which each tick differs from the one before it exactly at the edges.
func fromEdges(t *testing.T, edges []int, long int) {
	t.Helper()
	for first := -1; first <= 2; first++ {
		want, s := api.OK, ""
		for at := range long {
			n := first
			for _, edge := range edges {
				if edge <= at {
					n++
				}
			}
			s += string(rune('0' + n&1))
		}
		switch {
		case first != 0 && first != 1:
			want = api.ErrArg
		case long < 0:
			want = api.ErrRange
		case !slices.Equal(changes(s), edges):
			want = api.ErrOrder
		}
		if l, e := wave.FromEdges(first, edges, long); want != api.OK {
			fails(t, fmt.Sprint(first, edges, long), l, e, want)
		} else if equal(t, fmt.Sprint(first, edges, long), l, read(s)); e != api.OK {
			t.Errorf("%d %v %d: %d", first, edges, long, e)
		}
	}
}

// P8.6
func TestFromWrongEdges(t *testing.T) {
	const far = math.MaxInt
	tooMany := make([]int, api.MaxRuns)
	for _, edges := range [][]int{nil, {1}, {3, 3}, {far, -far}, tooMany} {
		for _, first := range []int{math.MinInt, -2, -1, 2, 3, 48, 256, 1 << 32, 1<<32 + 1, far} {
			for _, long := range []int{0, 9, end, -1, end + 1, far, math.MinInt} {
				l, e := wave.FromEdges(first, edges, long)
				fails(t, fmt.Sprint(first, long), l, e, api.ErrArg)
			}
		}
		for _, long := range []int{math.MinInt, math.MinInt + 1, -end, -2, -1, end + 1, end + 2, 1 << 53, far - 1, far} {
			l, e := wave.FromEdges(1, edges, long)
			fails(t, fmt.Sprint(long), l, e, api.ErrRange)
		}
	}
	for _, x := range []struct {
		edges []int
		long  int
	}{
		{[]int{3, 9}, 9}, {[]int{9}, 9}, {[]int{10}, 9}, {[]int{0}, 9}, {[]int{-1}, 9}, {[]int{-1, 3}, 9}, {[]int{0, 3}, 9}, {[]int{3, 3}, 9}, {[]int{5, 3}, 9}, {[]int{3, 5, 4}, 9}, {[]int{3, 5, 5}, 9}, {[]int{3, 5, 9}, 9},
		{[]int{0}, 0}, {[]int{1}, 0}, {[]int{-1}, 0}, {[]int{1}, 1}, {[]int{0}, 1}, {[]int{end}, end}, {[]int{end + 1}, end}, {[]int{0}, end}, {[]int{far}, 9}, {[]int{3, far}, end}, {[]int{math.MinInt}, 9},
		{[]int{math.MinInt, 3}, end}, {[]int{3, math.MinInt}, end}, {[]int{far, far}, end}, {[]int{math.MinInt, far}, end}, {[]int{math.MinInt + 1, math.MinInt + 2}, end},
	} {
		for first := range 2 {
			l, e := wave.FromEdges(first, x.edges, x.long)
			fails(t, fmt.Sprint(first, x.edges, x.long), l, e, api.ErrOrder)
		}
	}
}

// P8.7
func TestWavesFromTheirEdges(t *testing.T) {
	r := rand.New(rand.NewSource(87))
	all := slices.Concat(right(), short(7), exactly(8))
	for _, l := range exactly(8) {
		all = append(all, times(l, stretch))
	}
	for i := range 3000 {
		all = append(all, random(r, 1+i%60))
	}
	for _, l := range all {
		if len(l) == 0 {
			continue
		}
		first, ok := wave.At(l, 0)
		again, e := wave.FromEdges(first, wave.Edges(l), wave.Long(l))
		if equal(t, brief(l), again, wave.Clean(l)); !ok || e != api.OK || len(again) == 0 {
			t.Errorf("%s: %v %d", brief(l), ok, e)
		}
	}
}

// P8.8
func TestCleanKeepsLevels(t *testing.T) {
	r := rand.New(rand.NewSource(88))
	all := slices.Concat(right(), short(7))
	for i := range 1000 {
		all = append(all, random(r, 1+i%60))
	}
	for _, l := range all {
		clean, sum := wave.Clean(l), 0
		if wave.Long(clean) != wave.Long(l) || !wave.Valid(clean) {
			t.Errorf("%s: %s", brief(l), brief(clean))
		}
		equal(t, brief(l), wave.Clean(clean), clean)
		step := 1 + len(l)/100
		for i, x := range l {
			for _, at := range []int{sum - 1, sum, sum + x.Ticks/2, sum + x.Ticks - 1, sum + x.Ticks} {
				if i%step > 0 {
					break
				}
				a, known := wave.At(l, at)
				if b, ok := wave.At(clean, at); a != b || ok != known {
					t.Errorf("%s at %d: %d %v, not %d %v", brief(l), at, b, ok, a, known)
				}
			}
			sum += x.Ticks
		}
		for i := 1; i < len(clean); i++ {
			if clean[i].Level == clean[i-1].Level {
				t.Fatalf("%s: equal levels at %d", brief(clean), i)
			}
		}
	}
}

// P8.8
func TestCleanTellsLevelsApart(t *testing.T) {
	for n := range 6 {
		for _, a := range exactly(n) {
			for _, b := range exactly(n) {
				if same := slices.Equal(wave.Clean(a), wave.Clean(b)); same != (drawn(a) == drawn(b)) {
					t.Errorf("%v %v: %v", a, b, same)
				}
			}
		}
	}
}

// results returns all waves that the functions return for two waves.
func results(a, b []api.Run) [][]api.Run {
	joined, _ := wave.Join(a, b)
	before, _ := wave.Join(nil, a)
	after, _ := wave.Join(a, nil)
	return [][]api.Run{wave.Clean(a), wave.Slice(a, 0, end), wave.Slice(a, 1, wave.Long(a)-1), wave.Invert(a), joined, before, after}
}

// P8.2, P8.3, P8.4, P8.5
func TestArgumentsAreKept(t *testing.T) {
	for _, l := range [][]api.Run{w(1, 8, 1, 2, 0, 4), w(0, 3, 1, 2), w(0, 1, 0, 1, 0, 1), w(1, 5), w(0, 2, 1, 3, 1, 4, 0, 5, 0, 6)} {
		// The elements beyond the length belong to the caller as well.
		memory := append(slices.Clone(l), w(5, 6, 7, 8, 9, 10)...)
		kept := slices.Clone(memory)
		a, b := memory[:len(l)], w(1, 1, 0, 2)
		first := results(a, b)
		equal(t, "argument", memory, kept)
		for i, r := range first {
			clear(r[:cap(r)])
			if !slices.Equal(memory, kept) || !slices.Equal(b, w(1, 1, 0, 2)) {
				t.Errorf("%v: result %d shares memory", l, i)
			}
		}
		// Neither do the results depend on earlier ones.
		for i, r := range results(a, b) {
			equal(t, fmt.Sprint(l, " again: ", i), r, results(slices.Clone(l), slices.Clone(b))[i])
			if len(r) != len(first[i]) {
				t.Errorf("%v: result %d: %v", l, i, r)
			}
		}
	}
}

// P8.2, P8.6
func TestEdgesAreKept(t *testing.T) {
	memory := []int{3, 5, 7, 8}
	edges := memory[:2]
	l, e := wave.FromEdges(0, edges, 9)
	if e != api.OK || !slices.Equal(memory, []int{3, 5, 7, 8}) {
		t.Error(memory, e)
	}
	found := wave.Edges(l)
	clear(found[:cap(found)])
	equal(t, "wave", l, w(0, 3, 1, 2, 0, 4))
	if again := wave.Edges(l); !slices.Equal(again, edges) {
		t.Error(again)
	}
}
