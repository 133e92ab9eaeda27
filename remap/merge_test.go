package remap_test

import (
	"math/rand"
	"slices"
	"strings"
	"testing"

	"signalbench/api"
	"signalbench/capture"
	"signalbench/remap"
)

// together is an independent reading of Merge for captures of which each tick is k ticks long.
func together(a, b api.Capture, k int) api.Capture {
	first, second := drawn(a, k), drawn(b, k)
	long := max(len(first), len(second))
	first, second = prolonged(first, long, len(a.Names)), prolonged(second, long, len(b.Names))
	var l []cell
	for i := range long {
		l = append(l, cell{first[i].levels + second[i].levels, k})
	}
	return read(slices.Concat(a.Names, b.Names), l)
}

// prolonged returns levels that go on with the last one, or with 0.
func prolonged(l []cell, long, count int) []cell {
	last := strings.Repeat("0", count)
	if len(l) > 0 {
		last = l[len(l)-1].levels
	}
	for len(l) < long {
		l = append(l, cell{levels: last})
	}
	return l
}

// merges reports an error unless Merge of captures is what the independent reading is.
func merges(t *testing.T, a, b api.Capture, k int) {
	t.Helper()
	first, second := stretched(a, k), stretched(b, k)
	c, e := remap.Merge(first, second)
	gives(t, text(first)+" "+text(second), c, e, together(a, b, k))
}

// P12.3
func TestMerge(t *testing.T) {
	for _, x := range []struct{ a, b, want api.Capture }{
		{of("a", 1, 2), of("b", 1, 1, 0, 2), of("a b", 3, 1, 1, 2)}, {of("b", 1, 1, 0, 2), of("a", 1, 2), of("b a", 3, 1, 2, 2)},
		{of("a"), of("b"), of("a b")}, {of("a"), of("b", 0, 5), of("a b", 0, 5)}, {of("a"), of("b", 1, 5), of("a b", 2, 5)}, {of("a", 1, 5), of("b"), of("a b", 1, 5)},
		{of("a", 1, 1), of("b", 1, end), of("a b", 3, end)}, {of("a", 0, end), of("b", 0, end-1, 1, 1), of("a b", 0, end-1, 2, 1)}, {of("a", 1, end), of("b"), of("a b", 1, end)},
		{of("a c", 2, 1, 2, 1, 1, 1), of("b d", 3, 1, 3, 3), of("a c b d", 14, 2, 13, 2)}, {of("a", 0, 1, 1, 1), of("b", 0, 1, 0, 1, 1, 5), of("a b", 0, 1, 1, 1, 3, 5)},
		{of("a"), of("c b a1"), of("a c b a1")}, {of("a_long_name_of16", 1, 1), of("a_long_name_of17", 1, 1), of("a_long_name_of16 a_long_name_of17", 3, 1)},
	} {
		c, e := remap.Merge(x.a, x.b)
		gives(t, text(x.a)+" "+text(x.b), c, e, x.want)
	}
}

// P12.3
func TestMergeOfAllShortCaptures(t *testing.T) {
	for _, a := range append(short(1, 4), short(2, 3)...) {
		for _, b := range append(short(1, 4), short(2, 2)...) {
			merges(t, a, named(b, strings.Join(channels(4)[4-len(b.Names):], " ")), 1)
		}
	}
	for _, a := range append(short(1, 3), short(3, 1)...) {
		for _, b := range append(short(1, 3), short(3, 1)...) {
			merges(t, a, named(b, strings.Join(channels(6)[6-len(b.Names):], " ")), end/3)
		}
	}
}

// P12.3
func TestMergeOfManyChannels(t *testing.T) {
	r := rand.New(rand.NewSource(123))
	for count := 1; count <= 15; count++ {
		for other := 1; count+other <= 16; other++ {
			for range 15 {
				a, b := random(r, count, 60), random(r, other, 60)
				b.Names = channels(16)[count : count+other]
				merges(t, a, b, 1+r.Intn(end/60))
			}
		}
	}
}

// P12.3
func TestMergeOfTooManyChannels(t *testing.T) {
	for count := 1; count <= 16; count++ {
		for other := 1; other <= 16; other++ {
			a, b := with(count, runs(1, 3, 0, 2)), with(other, runs(0, 1, 1, 7))
			for i := range b.Names {
				b.Names[i] = strings.Repeat(b.Names[i], 2)
			}
			c, e := remap.Merge(a, b)
			if count+other <= 16 {
				gives(t, text(a)+" "+text(b), c, e, together(a, b, 1))
			} else {
				fails(t, text(a)+" "+text(b), c, e, api.ErrLimit)
			}
		}
	}
}

// P12.3
func TestMergeOfCommonNames(t *testing.T) {
	for _, count := range []int{1, 2, 3, 8, 16} {
		for _, other := range []int{1, 2, 3, 8, 16} {
			for i := range count {
				for k := range other {
					a, b := with(count, runs(1, 3, 0, 2)), with(other, runs(1, 4))
					for j := range b.Names {
						b.Names[j] = strings.Repeat(b.Names[j], 2)
					}
					b.Names[k] = a.Names[i]
					c, e := remap.Merge(a, b)
					fails(t, text(a)+" "+text(b), c, e, api.ErrDuplicate)
				}
			}
		}
	}
	// This error comes before that of too many runs.
	c, e := remap.Merge(with(1, repeated(api.MaxRuns, 2, 0, 1)), with(1, runs(0, 1, 1, 1)))
	fails(t, "many runs", c, e, api.ErrDuplicate)
}

// P12.3
func TestMergeOfWrongCaptures(t *testing.T) {
	for _, x := range wrong() {
		for _, y := range wrong() {
			c, e := remap.Merge(x.c, y.c)
			fails(t, text(x.c)+" "+text(y.c), c, e, x.e)
		}
		for _, valid := range []api.Capture{of("a", 1, 5), of("z"), of("z y", 3, end), with(16, runs(1, 5)), with(1, repeated(api.MaxRuns, 1, 0, 1))} {
			c, e := remap.Merge(x.c, valid)
			fails(t, text(x.c)+" "+text(valid), c, e, x.e)
			c, e = remap.Merge(valid, x.c)
			fails(t, text(valid)+" "+text(x.c), c, e, x.e)
		}
	}
}

// exchanged returns runs of two channels with these exchanged.
func exchanged(l []api.Run) []api.Run {
	other := slices.Clone(l)
	for i, r := range l {
		other[i].Level = []int{0, 2, 1, 3}[r.Level]
	}
	return other
}

// P12.3
func TestMergeOfManyRuns(t *testing.T) {
	const n, k = api.MaxRuns, 1024
	alternating, slow := repeated(n, k, 1, 0), repeated(n/2, 2*k, 0, 1)
	// between returns runs that change in the middle of those of slow, with these last ones.
	between := func(last ...int) []api.Run {
		return slices.Concat(runs(0, k), repeated(n/2-1, 2*k, 1, 0), runs(last...))
	}
	for _, x := range []struct{ a, b, want []api.Run }{
		{alternating, nil, alternating}, {alternating, runs(0, 1), alternating}, {alternating, runs(0, n*k), alternating}, {alternating, alternating, repeated(n, k, 3, 0)},
		{alternating, runs(1, k, 0, 1), slices.Concat(runs(3, k), repeated(n-1, k, 0, 1))},
		// The last level of the shorter one goes on, without a further run.
		{alternating, runs(0, end), slices.Concat(alternating[:n-1], runs(0, end-(n-1)*k))}, {repeated(n, k, 0, 1), runs(0, n*k, 0, k), slices.Concat(repeated(n-1, k, 0, 1), runs(1, 2*k))},
		{repeated(n-1, k, 1, 0), runs(0, (n-1)*k, 1, 1), slices.Concat(repeated(n-1, k, 1, 0), runs(3, 1))},
		// Many more places where a run ends than runs of the result.
		{repeated(n, k, 1), repeated(n, k+1, 1), runs(3, n*(k+1))}, {repeated(n, k, 0), repeated(n/2, 2*k+1, 0, 1), repeated(n/2, 2*k+1, 0, 2)},
		// Each edge is one of the result, and together they are almost as many as there may be, and as many.
		{slow, between(1, k), slices.Concat(repeated(n-2, k, 0, 2, 3, 1), runs(3, 2*k))}, {slow, between(0, k), repeated(n, k, 0, 2, 3, 1)},
	} {
		a, b := with(1, x.a), named(with(1, x.b), "b")
		c, e := remap.Merge(a, b)
		gives(t, text(a)+" "+text(b), c, e, with(2, x.want))
		c, e = remap.Merge(b, a)
		gives(t, text(b)+" "+text(a), c, e, named(with(2, exchanged(x.want)), "b a"))
	}
	for _, x := range []struct{ a, b []api.Run }{
		{alternating, runs(1, k, 0, k+1, 1, 1)}, {alternating, runs(0, k+1, 1, 1)}, {alternating, runs(0, n*k, 1, 1)}, {alternating, runs(1, 1, 0, 1)}, {alternating, runs(0, n*k-1, 1, 1)},
		{slow, between(0, k-1, 1, 1)}, {slow, between(0, k, 1, 1)}, {slow, repeated(n, 2*k-1, 0, 1)}, {alternating, repeated(n, k+1, 0, 1)},
	} {
		a, b := with(1, x.a), named(with(1, x.b), "b")
		c, e := remap.Merge(a, b)
		fails(t, text(a)+" "+text(b), c, e, api.ErrLimit)
		c, e = remap.Merge(b, a)
		fails(t, text(b)+" "+text(a), c, e, api.ErrLimit)
	}
}

// P12.6
func TestPartsOfMerge(t *testing.T) {
	r := rand.New(rand.NewSource(126))
	for range 2000 {
		a, b := random(r, 1+r.Intn(8), 40), random(r, 1+r.Intn(8), 40)
		b.Names = channels(16)[8 : 8+len(b.Names)]
		c, e := remap.Merge(a, b)
		if e != api.OK {
			t.Fatal(text(a), text(b), e)
		}
		for _, part := range []api.Capture{a, b} {
			d, e := remap.Select(c, part.Names)
			if e != api.OK || capture.Long(d) != max(capture.Long(a), capture.Long(b)) {
				t.Errorf("%s %s: %s %d", text(a), text(b), text(d), e)
			}
			for at := range capture.Long(part) {
				want, _ := capture.At(part, at)
				if level, ok := capture.At(d, at); level != want || !ok {
					t.Errorf("%s %s: %s at %d", text(a), text(b), text(d), at)
				}
			}
		}
	}
}
