package span_test

import (
	"math"
	"math/rand"
	"slices"
	"testing"

	"signalbench/api"
	"signalbench/span"
)

// sp returns the span from a to before b.
func sp(a, b int) api.Span { return api.Span{From: a, To: b} }

// has reports whether s contains the tick t, as the document defines it.
func has(s api.Span, t int) bool {
	right := s.From >= 0 && s.To > s.From && s.To <= api.MaxTime
	return right && t >= s.From && t < s.To
}

// inUnion reports whether the union of l contains the tick t.
func inUnion(l []api.Span, t int) bool {
	return slices.ContainsFunc(l, func(s api.Span) bool { return has(s, t) })
}

// inGap reports whether all contains the tick t and the union of l does not.
func inGap(l []api.Span, all api.Span, t int) bool { return has(all, t) && !inUnion(l, t) }

// longest returns the longest spans of the ticks of a set that changes only at the bounds of the spans of l.
// It examines the first tick after each of these bounds and knows nothing of the order or the validity of spans.
func longest(l []api.Span, in func(t int) bool) []api.Span {
	cuts := []int{0, api.MaxTime}
	for _, s := range l {
		for _, t := range []int{s.From, s.To} {
			if t > 0 && t < api.MaxTime {
				cuts = append(cuts, t)
			}
		}
	}
	slices.Sort(cuts)
	cuts = slices.Compact(cuts)
	var r []api.Span
	for i, t := range cuts[:len(cuts)-1] {
		switch before := i > 0 && in(cuts[i-1]); {
		case in(t) && before:
			r[len(r)-1].To = cuts[i+1]
		case in(t):
			r = append(r, sp(t, cuts[i+1]))
		}
	}
	return r
}

// union returns what Join must return for l.
func union(l []api.Span) []api.Span {
	return longest(l, func(t int) bool { return inUnion(l, t) })
}

// rest returns what Gaps must return for l and all.
func rest(l []api.Span, all api.Span) []api.Span {
	return longest(append(slices.Clone(l), all), func(t int) bool { return inGap(l, all, t) })
}

// window is the times from lo to hi.
type window struct{ lo, hi int }

// spans returns all spans, valid or not, with bounds in the window.
func (w window) spans() []api.Span {
	var l []api.Span
	for a := w.lo; a <= w.hi; a++ {
		for b := w.lo; b <= w.hi; b++ {
			l = append(l, sp(a, b))
		}
	}
	return l
}

// windows returns short times at the beginning, in the middle and at the end of time, with times outside it.
func windows() []window {
	return []window{{-2, 4}, {1 << 31, 1<<31 + 4}, {api.MaxTime - 4, api.MaxTime + 2}}
}

// invalid returns spans that are not valid.
func invalid() []api.Span {
	l := []api.Span{{}, sp(4, 4), sp(5, 4), sp(1, 0), sp(api.MaxTime, api.MaxTime), sp(api.MaxTime, api.MaxTime-1), sp(api.MaxTime, 0)}
	for _, t := range []int{-1, -2, -5, -api.MaxTime, math.MinInt + 1, math.MinInt} {
		l = append(l, sp(t, 0), sp(t, 1), sp(t, 9), sp(t, api.MaxTime), sp(t, math.MaxInt), sp(0, t), sp(5, t), sp(t, t), sp(t, t+1))
	}
	for _, t := range []int{api.MaxTime + 1, api.MaxTime + 2, 1<<53 + 1, math.MaxInt - 1, math.MaxInt} {
		l = append(l, sp(0, t), sp(5, t), sp(api.MaxTime-1, t), sp(api.MaxTime, t), sp(t, t), sp(t-1, t), sp(t, 5), sp(t, 0), sp(t, api.MaxTime))
	}
	return l
}

// lists returns lists of spans of the document's examples, at the limits, and with spans that are not valid.
func lists() [][]api.Span {
	const end = api.MaxTime
	l := [][]api.Span{nil, {}, {sp(5, 9), sp(1, 3), sp(3, 4)}, {sp(0, end)}, {sp(0, 1)}, {sp(end-1, end)}, {sp(0, 1), sp(end-1, end)}, {sp(0, 5), sp(5, end)}, {sp(1, end-1), sp(0, end)},
		{sp(2, 3), sp(2, 3), sp(2, 3)}, {sp(1, 9), sp(2, 3), sp(4, 5)}, {sp(4, 5), sp(2, 3), sp(1, 9)}, {sp(1, 9), sp(2, 3), sp(8, 12), sp(12, 13), sp(14, 15)}, {sp(1, 3), sp(1, 2), sp(1, 4)},
		{sp(1, 5), sp(4, 4), sp(6, 6), sp(5, 1)}, {sp(1, 3), sp(3, 3), sp(4, 3), sp(4, 6)}, {sp(-1, 5), sp(2, 3)}, {sp(2, 3), sp(1, end+1), sp(9, 10)}, {sp(math.MinInt, math.MaxInt), sp(7, 8)}, invalid()}
	return append(l, append(invalid(), sp(3, 5), sp(9, 11)))
}

// random returns a list of up to n spans, most of them valid, of lengths and distances of all magnitudes.
func random(r *rand.Rand, n int) []api.Span {
	var l []api.Span
	width := 2 + r.Intn(api.MaxTime>>r.Intn(40))
	base := r.Intn(api.MaxTime)
	if r.Intn(3) == 0 {
		base = 0
	}
	for range r.Intn(n + 1) {
		a := base + r.Intn(width)
		s := sp(a, a+1+r.Intn(width)>>r.Intn(20))
		switch r.Intn(12) {
		case 0:
			s.From, s.To = s.To, s.From
		case 1:
			s.From = -s.From - 1
		case 2:
			s.To = s.From
		case 3:
			s.To = min(s.To, api.MaxTime)
		case 4:
			if len(l) > 0 {
				s.From = l[r.Intn(len(l))].To
			}
		}
		l = append(l, s)
	}
	return l
}

// P6.1
func TestValid(t *testing.T) {
	const end = api.MaxTime
	for _, s := range []api.Span{sp(0, 1), sp(0, 2), sp(1, 2), sp(4, 9), sp(0, end), sp(1, end), sp(end-1, end), sp(end-2, end-1), sp(0, end-1), sp(1<<31, 1<<32)} {
		if !span.Valid(s) {
			t.Errorf("%+v is not valid", s)
		}
	}
	for _, s := range invalid() {
		if span.Valid(s) {
			t.Errorf("%+v is valid", s)
		}
	}
	for _, w := range windows() {
		for _, s := range w.spans() {
			if want := has(s, s.From); span.Valid(s) != want {
				t.Errorf("%+v: not %v", s, want)
			}
		}
	}
}

// P6.2
func TestCommon(t *testing.T) {
	const end = api.MaxTime
	for _, x := range []struct{ a, b, want api.Span }{
		{sp(1, 5), sp(4, 9), sp(4, 5)}, {sp(1, 9), sp(4, 5), sp(4, 5)}, {sp(1, 5), sp(1, 9), sp(1, 5)}, {sp(4, 9), sp(1, 9), sp(4, 9)}, {sp(4, 5), sp(4, 5), sp(4, 5)},
		{sp(0, end), sp(7, 8), sp(7, 8)}, {sp(0, end), sp(0, end), sp(0, end)}, {sp(0, end), sp(end-1, end), sp(end-1, end)}, {sp(0, end-1), sp(end-3, end), sp(end-3, end-1)},
	} {
		for _, p := range [][2]api.Span{{x.a, x.b}, {x.b, x.a}} {
			if c, ok := span.Common(p[0], p[1]); c != x.want || !ok {
				t.Errorf("%+v: %+v %v", p, c, ok)
			}
			if !span.Meets(p[0], p[1]) {
				t.Errorf("%+v do not meet", p)
			}
		}
	}
}

// apart reports an error unless a and b have no tick in common.
func apart(t *testing.T, a, b api.Span) {
	t.Helper()
	if c, ok := span.Common(a, b); c != (api.Span{}) || ok {
		t.Errorf("%+v %+v: %+v %v", a, b, c, ok)
	}
	if span.Meets(a, b) {
		t.Errorf("%+v %+v meet", a, b)
	}
}

// P6.2
func TestNothingInCommon(t *testing.T) {
	const end = api.MaxTime
	for _, x := range [][2]api.Span{{sp(1, 4), sp(4, 9)}, {sp(1, 3), sp(4, 9)}, {sp(0, 1), sp(1, end)}, {sp(0, 1), sp(end-1, end)}, {sp(0, end-1), sp(end-1, end)}} {
		apart(t, x[0], x[1])
		apart(t, x[1], x[0])
	}
	// A span that is not valid contains no tick, even where the overlap of the bounds is a valid span.
	for _, s := range invalid() {
		for _, other := range append(invalid(), sp(0, 1), sp(4, 9), sp(4, 5), sp(0, end), sp(end-1, end)) {
			apart(t, s, other)
			apart(t, other, s)
		}
	}
}

// P6.2
func TestCommonOfAllShortSpans(t *testing.T) {
	for _, w := range windows() {
		for _, a := range w.spans() {
			for _, b := range w.spans() {
				want := longest([]api.Span{a, b}, func(t int) bool { return has(a, t) && has(b, t) })
				if len(want) == 0 {
					apart(t, a, b)
					continue
				}
				if c, ok := span.Common(a, b); c != want[0] || !ok || !span.Meets(a, b) {
					t.Errorf("%+v %+v: %+v %v %v, not %+v", a, b, c, ok, span.Meets(a, b), want)
				}
			}
		}
	}
}

// P6.3
func TestJoin(t *testing.T) {
	const end = api.MaxTime
	for _, x := range []struct{ l, want []api.Span }{
		{nil, nil}, {[]api.Span{}, nil}, {invalid(), nil}, {[]api.Span{sp(4, 4)}, nil}, {[]api.Span{sp(4, 9)}, []api.Span{sp(4, 9)}},
		{[]api.Span{sp(5, 9), sp(1, 3), sp(3, 4)}, []api.Span{sp(1, 4), sp(5, 9)}},
		// Separate, adjacent, overlapping and contained spans.
		{[]api.Span{sp(6, 7), sp(4, 5)}, []api.Span{sp(4, 5), sp(6, 7)}}, {[]api.Span{sp(5, 6), sp(4, 5)}, []api.Span{sp(4, 6)}},
		{[]api.Span{sp(3, 8), sp(1, 4)}, []api.Span{sp(1, 8)}}, {[]api.Span{sp(1, 9), sp(2, 3), sp(4, 5), sp(9, 10)}, []api.Span{sp(1, 10)}},
		{[]api.Span{sp(1, 9), sp(2, 3), sp(4, 5), sp(10, 11)}, []api.Span{sp(1, 9), sp(10, 11)}}, {[]api.Span{sp(1, 2), sp(1, 4), sp(1, 3)}, []api.Span{sp(1, 4)}},
		{[]api.Span{sp(0, 1), sp(1, end)}, []api.Span{sp(0, end)}}, {[]api.Span{sp(end-1, end), sp(0, 1)}, []api.Span{sp(0, 1), sp(end-1, end)}},
		// A span that is not valid joins nothing.
		{[]api.Span{sp(1, 4), sp(4, 4), sp(5, 4), sp(5, 7)}, []api.Span{sp(1, 4), sp(5, 7)}}, {[]api.Span{sp(1, 2), sp(0, end+1), sp(-1, 9), sp(5, 7)}, []api.Span{sp(1, 2), sp(5, 7)}},
	} {
		if r := span.Join(x.l); !slices.Equal(r, x.want) {
			t.Errorf("%+v: %+v, not %+v", x.l, r, x.want)
		}
	}
}

// P6.4
func TestGaps(t *testing.T) {
	const end = api.MaxTime
	three := []api.Span{sp(5, 9), sp(1, 3), sp(3, 4)}
	for _, x := range []struct {
		l    []api.Span
		all  api.Span
		want []api.Span
	}{
		{three, sp(0, 12), []api.Span{sp(0, 1), sp(4, 5), sp(9, 12)}}, {three, sp(1, 9), []api.Span{sp(4, 5)}}, {three, sp(1, 4), nil}, {three, sp(2, 8), []api.Span{sp(4, 5)}},
		{three, sp(4, 5), []api.Span{sp(4, 5)}}, {three, sp(9, 12), []api.Span{sp(9, 12)}}, {three, sp(0, 1), []api.Span{sp(0, 1)}}, {three, sp(20, 30), []api.Span{sp(20, 30)}},
		{three, sp(0, end), []api.Span{sp(0, 1), sp(4, 5), sp(9, end)}}, {three, sp(6, 7), nil}, {three, sp(8, 10), []api.Span{sp(9, 10)}}, {three, sp(0, 2), []api.Span{sp(0, 1)}},
		{nil, sp(4, 9), []api.Span{sp(4, 9)}}, {[]api.Span{}, sp(0, end), []api.Span{sp(0, end)}}, {invalid(), sp(0, end), []api.Span{sp(0, end)}}, {invalid(), sp(3, 4), []api.Span{sp(3, 4)}},
		{[]api.Span{sp(0, end)}, sp(0, end), nil}, {[]api.Span{sp(1, end)}, sp(0, end), []api.Span{sp(0, 1)}}, {[]api.Span{sp(0, end-1)}, sp(0, end), []api.Span{sp(end-1, end)}},
		{[]api.Span{sp(end-2, end-1)}, sp(end-3, end), []api.Span{sp(end-3, end-2), sp(end-1, end)}}, {[]api.Span{sp(0, end+1), sp(-1, 5), sp(3, 3)}, sp(0, 9), []api.Span{sp(0, 9)}},
	} {
		if r := span.Gaps(x.l, x.all); !slices.Equal(r, x.want) {
			t.Errorf("%+v in %+v: %+v, not %+v", x.l, x.all, r, x.want)
		}
	}
	// Nothing is contained in a span that is not valid.
	for _, all := range invalid() {
		for _, l := range lists() {
			if r := span.Gaps(l, all); len(r) != 0 {
				t.Errorf("%+v in %+v: %+v", l, all, r)
			}
		}
	}
}

// P6.5
func TestTotal(t *testing.T) {
	const end = api.MaxTime
	for _, x := range []struct {
		l    []api.Span
		want int
	}{
		{nil, 0}, {[]api.Span{}, 0}, {invalid(), 0}, {[]api.Span{sp(5, 9), sp(1, 3), sp(3, 4)}, 7}, {[]api.Span{sp(4, 4)}, 0}, {[]api.Span{sp(4, 5)}, 1}, {[]api.Span{sp(4, 9), sp(4, 9)}, 5},
		{[]api.Span{sp(4, 9), sp(6, 12)}, 8}, {[]api.Span{sp(1, 9), sp(2, 3), sp(4, 5)}, 8}, {[]api.Span{sp(0, end)}, end}, {slices.Repeat([]api.Span{sp(0, end), sp(1, end)}, 100), end},
		{[]api.Span{sp(0, end+1), sp(-1, 5), sp(2, 3)}, 1}, {[]api.Span{sp(end-1, end), sp(0, 1)}, 2},
	} {
		if n := span.Total(x.l); n != x.want {
			t.Errorf("%+v: %d, not %d", x.l, n, x.want)
		}
	}
}

// P6.6
func TestFind(t *testing.T) {
	const end = api.MaxTime
	l := []api.Span{sp(5, 9), sp(-1, 20), sp(1, 3), sp(3, 4), sp(2, 7), sp(0, end+1), sp(end-1, end), sp(9, 5), sp(0, 1)}
	for _, x := range [][2]int{{0, 8}, {1, 2}, {2, 2}, {3, 3}, {4, 4}, {5, 0}, {8, 0}, {9, -1}, {10, -1}, {end - 2, -1}, {end - 1, 6}, {end, -1}, {end + 1, -1},
		{-1, -1}, {-2, -1}, {math.MinInt, -1}, {math.MaxInt, -1}} {
		if i := span.Find(l, x[0]); i != x[1] {
			t.Errorf("%d: %d, not %d", x[0], i, x[1])
		}
	}
	for _, at := range []int{math.MinInt, -1, 0, 3, end - 1, end, math.MaxInt} {
		for _, l := range [][]api.Span{nil, {}, invalid()} {
			if i := span.Find(l, at); i != -1 {
				t.Errorf("%+v: %d: %d", l, at, i)
			}
		}
	}
	// The first of several, wherever it is.
	for k := range 50 {
		l := append(slices.Repeat([]api.Span{sp(1, 2), sp(4, 4), sp(3, 5)}, k), slices.Repeat([]api.Span{sp(2, 3)}, 3)...)
		if i := span.Find(l, 2); i != 3*k {
			t.Errorf("%d: %d", k, i)
		}
	}
}

// P6.6
func TestFindInShortSpans(t *testing.T) {
	for _, w := range windows() {
		for _, a := range w.spans() {
			for _, b := range w.spans() {
				l := []api.Span{a, b}
				for at := w.lo - 1; at <= w.hi+1; at++ {
					want := slices.IndexFunc(l, func(s api.Span) bool { return has(s, at) })
					if i := span.Find(l, at); i != want {
						t.Errorf("%+v: %d: %d, not %d", l, at, i, want)
					}
				}
			}
		}
	}
}

// same compares Join, Gaps and Total with the independent reading.
func same(t *testing.T, l []api.Span, all api.Span) {
	t.Helper()
	joined := union(l)
	if r := span.Join(l); !slices.Equal(r, joined) {
		t.Errorf("Join of %+v: %+v, not %+v", l, r, joined)
	}
	gaps := rest(l, all)
	if r := span.Gaps(l, all); !slices.Equal(r, gaps) {
		t.Errorf("Gaps of %+v in %+v: %+v, not %+v", l, all, r, gaps)
	}
	total := 0
	for _, s := range joined {
		total += s.To - s.From
	}
	if n := span.Total(l); n != total {
		t.Errorf("Total of %+v: %d, not %d", l, n, total)
	}
}

// P6.3, P6.4, P6.5
func TestAllShortLists(t *testing.T) {
	for _, w := range windows() {
		for _, a := range w.spans() {
			for _, b := range w.spans() {
				same(t, []api.Span{a, b}, sp(w.lo+3, w.hi-1))
				same(t, []api.Span{a}, b)
			}
		}
	}
	few := window{0, 5}.spans()
	for _, a := range few {
		for _, b := range few {
			for _, c := range few {
				same(t, []api.Span{a, b, c}, sp(1, 5))
			}
		}
	}
}

// P6.3, P6.4, P6.5
func TestRandomLists(t *testing.T) {
	r := rand.New(rand.NewSource(63))
	for range 10000 {
		l := random(r, 12)
		all := sp(0, api.MaxTime)
		if near := random(r, 1); len(near) > 0 {
			all = near[0]
		}
		if len(l) > 1 && r.Intn(2) == 0 {
			all = sp(l[0].From, l[len(l)-1].To)
		}
		same(t, l, all)
	}
	for range 20 {
		same(t, random(r, 300), sp(0, api.MaxTime))
	}
	for _, l := range lists() {
		for _, all := range []api.Span{sp(0, api.MaxTime), sp(0, 1), sp(2, 10), sp(api.MaxTime-1, api.MaxTime), {}} {
			same(t, l, all)
		}
	}
}

// ordered reports an error unless the spans of l are valid, ascending, separate and not adjacent.
func ordered(t *testing.T, l []api.Span) {
	t.Helper()
	for i, s := range l {
		if !span.Valid(s) || i > 0 && s.From <= l[i-1].To {
			t.Errorf("%+v: wrong at %d", l, i)
			return
		}
	}
}

// P6.3, P6.4
func TestResultsAreSeparate(t *testing.T) {
	r := rand.New(rand.NewSource(64))
	for range 5000 {
		l := random(r, 20)
		ordered(t, span.Join(l))
		ordered(t, span.Gaps(l, sp(0, api.MaxTime)))
	}
}

// P6.7
func TestPartition(t *testing.T) {
	for _, w := range windows() {
		for _, a := range w.spans() {
			for _, b := range w.spans() {
				l := []api.Span{a, b}
				all := sp(max(w.lo, 0), min(w.hi, api.MaxTime))
				parts := append(span.Join(l), span.Gaps(l, all)...)
				for at := all.From; at < all.To; at++ {
					if n := count(parts, at); n != 1 {
						t.Errorf("%+v in %+v: %d is in %d spans of %+v", l, all, at, n, parts)
					}
				}
			}
		}
	}
}

// count returns the number of the spans of l that contain the tick at.
func count(l []api.Span, at int) int {
	n := 0
	for _, s := range l {
		if has(s, at) {
			n++
		}
	}
	return n
}

// P6.7
func TestPartitionOfAllTime(t *testing.T) {
	r := rand.New(rand.NewSource(67))
	all := sp(0, api.MaxTime)
	for range 3000 {
		l := random(r, 20)
		joined, gaps := span.Join(l), span.Gaps(l, all)
		if n := span.Total(joined) + span.Total(gaps); n != api.MaxTime {
			t.Errorf("%+v: %d ticks", l, n)
		}
		parts := slices.Concat(joined, gaps)
		for _, s := range append(parts, l...) {
			for _, at := range []int{s.From - 1, s.From, s.To - 1, s.To} {
				if n := count(parts, at); has(all, at) && n != 1 {
					t.Errorf("%+v: %d is in %d spans of %+v", l, at, n, parts)
				}
			}
		}
		// Spans and gaps change their roles.
		if again := span.Gaps(gaps, all); !slices.Equal(again, joined) {
			t.Errorf("%+v: %+v, not %+v", l, again, joined)
		}
	}
}

// P6.8
func TestOrderAndRepetitions(t *testing.T) {
	r := rand.New(rand.NewSource(68))
	for i := range 3000 {
		l := random(r, 12)
		if i < len(lists()) {
			l = lists()[i]
		}
		want := span.Join(l)
		mixed := slices.Clone(l)
		for range 5 {
			r.Shuffle(len(mixed), func(i, j int) { mixed[i], mixed[j] = mixed[j], mixed[i] })
			if len(mixed) > 0 {
				mixed = append(mixed, mixed[r.Intn(len(mixed))])
			}
			if joined := span.Join(mixed); !slices.Equal(joined, want) {
				t.Errorf("%+v: %+v, not %+v", mixed, joined, want)
			}
		}
		for _, again := range [][]api.Span{span.Join(want), span.Join(slices.Concat(want, want)), span.Join(slices.Concat(l, want))} {
			if !slices.Equal(again, want) {
				t.Errorf("%+v: %+v, not %+v", l, again, want)
			}
		}
	}
}

// P6.8
func TestAllOrders(t *testing.T) {
	few := window{0, 4}.spans()
	for _, a := range few {
		for _, b := range few {
			for _, c := range few {
				want := span.Join([]api.Span{a, b, c})
				for _, l := range [][]api.Span{{a, c, b}, {b, a, c}, {b, c, a}, {c, a, b}, {c, b, a}, {c, a, c, b, a, b}} {
					if r := span.Join(l); !slices.Equal(r, want) {
						t.Errorf("%+v: %+v, not %+v", l, r, want)
					}
				}
			}
		}
	}
}

// P6.3, P6.4, P6.5, P6.6
func TestArgumentsAreKept(t *testing.T) {
	for _, l := range append(lists(), []api.Span{sp(1, 2), sp(4, 5)}, []api.Span{sp(8, 9), sp(4, 6), sp(5, 7), sp(3, 3)}) {
		before := slices.Clone(l)
		joined, gaps := span.Join(l), span.Gaps(l, sp(0, 20))
		span.Total(l)
		span.Find(l, 4)
		if !slices.Equal(l, before) {
			t.Errorf("%+v, not %+v", l, before)
		}
		// The results share no memory with the argument, not even that beyond their ends.
		clear(joined[:cap(joined)])
		clear(gaps[:cap(gaps)])
		if !slices.Equal(l, before) {
			t.Errorf("%+v, not %+v, after a result was changed", l, before)
		}
		if again := span.Join(l); !slices.Equal(again, union(before)) {
			t.Errorf("%+v: %+v after a result was changed", l, again)
		}
	}
}

// P6.3, P6.4, P6.5
func TestArgumentsWithCapacityAreKept(t *testing.T) {
	memory := []api.Span{sp(5, 6), sp(1, 2), sp(8, 9), sp(7, 8)}
	before := slices.Clone(memory)
	l := memory[:2]
	if r := span.Join(l); !slices.Equal(r, []api.Span{sp(1, 2), sp(5, 6)}) {
		t.Errorf("%+v", r)
	}
	if r := span.Gaps(l, sp(0, 9)); !slices.Equal(r, []api.Span{sp(0, 1), sp(2, 5), sp(6, 9)}) {
		t.Errorf("%+v", r)
	}
	if n := span.Total(l); n != 2 || !slices.Equal(memory, before) {
		t.Errorf("%d %+v", n, memory)
	}
}

// P6.3, P6.4, P6.5
func TestLongLists(t *testing.T) {
	const n = 1 << 18
	var separate, adjacent []api.Span
	for i := range n {
		k := n - 1 - i
		separate = append(separate, sp(2*k+1, 2*k+2))
		adjacent = append(adjacent, sp(k, k+1), sp(0, 1), sp(k, k))
	}
	joined, gaps := span.Join(separate), span.Gaps(separate, sp(0, 2*n+1))
	if len(joined) != n || len(gaps) != n+1 || span.Total(separate) != n {
		t.Fatal(len(joined), len(gaps), span.Total(separate))
	}
	for i, s := range joined {
		if s != sp(2*i+1, 2*i+2) || gaps[i] != sp(2*i, 2*i+1) {
			t.Fatalf("%d: %+v %+v", i, s, gaps[i])
		}
	}
	if gaps[n] != sp(2*n, 2*n+1) {
		t.Errorf("%+v", gaps[n])
	}
	if r := span.Join(adjacent); !slices.Equal(r, []api.Span{sp(0, n)}) || span.Total(adjacent) != n {
		t.Errorf("%d spans, %d ticks", len(r), span.Total(adjacent))
	}
}
