package capture_test

import (
	"fmt"
	"math"
	"math/rand"
	"slices"
	"testing"

	"signalbench/api"
	"signalbench/capture"
)

// together returns the levels of channels with these levels, one list for each channel.
func together(channels [][]int) []int {
	var levels []int
	for at := range channels[0] {
		sum, weight := 0, 1
		for _, l := range channels {
			sum += l[at] * weight
			weight *= 2
		}
		levels = append(levels, sum)
	}
	return levels
}

// allChannels returns the waves of all channels of a capture.
func allChannels(t *testing.T, c api.Capture) [][]api.Run {
	t.Helper()
	var waves [][]api.Run
	for _, name := range c.Names {
		l, e := capture.Channel(c, name)
		if e != api.OK {
			t.Errorf("%s %s: %d", text(c), name, e)
		}
		waves = append(waves, l)
	}
	return waves
}

// clean returns the runs with those joined that follow one of the same level.
func clean(l []api.Run) []api.Run {
	var joined []api.Run
	for i, r := range l {
		if i > 0 && r.Level == l[i-1].Level {
			joined[len(joined)-1].Ticks += r.Ticks
		} else {
			joined = append(joined, r)
		}
	}
	return joined
}

// P9.4
func TestBuild(t *testing.T) {
	for _, x := range []struct {
		waves [][]api.Run
		want  []api.Run
	}{
		{[][]api.Run{runs(1, 3, 0, 2), runs(0, 1, 1, 4)}, runs(1, 1, 3, 2, 2, 2)}, {[][]api.Run{runs(1, 5)}, runs(1, 5)}, {[][]api.Run{runs(0, 2, 0, 3, 1, 1)}, runs(0, 5, 1, 1)},
		{[][]api.Run{runs(0, 5), runs(0, 5), runs(0, 5)}, runs(0, 5)}, {[][]api.Run{runs(1, 5), runs(1, 5), runs(1, 5)}, runs(7, 5)}, {[][]api.Run{runs(0, 2, 1, 3), runs(1, 2, 0, 3)}, runs(2, 2, 1, 3)},
		{[][]api.Run{runs(0, 1, 0, 1, 0, 1, 0, 2), runs(1, 2, 1, 3), runs(0, 3, 1, 2)}, runs(2, 3, 6, 2)}, {[][]api.Run{nil}, nil}, {[][]api.Run{nil, {}, nil}, nil},
		{[][]api.Run{runs(1, end), runs(0, end-1, 1, 1)}, runs(1, end-1, 3, 1)}, {[][]api.Run{runs(0, 1, 1, end-1), runs(1, end-1, 0, 1)}, runs(2, 1, 3, end-2, 1, 1)}, {[][]api.Run{runs(0, end)}, runs(0, end)},
	} {
		names := channels(len(x.waves))
		c, e := capture.Build(names, x.waves)
		gives(t, fmt.Sprint(x.waves), c, e, api.Capture{Names: names, Runs: x.want})
	}
	c, e := capture.Build([]string{"z9", "a_long_name_of16", "a"}, [][]api.Run{runs(1, 2), runs(0, 2), runs(0, 1, 1, 1)})
	gives(t, "names", c, e, named("z9 a_long_name_of16 a", 1, 1, 5, 1))
}

// P9.4
func TestBuildOfShortWaves(t *testing.T) {
	for n, most := range []int{0, 6, 4, 3, 2} {
		for k := 0; n > 0 && k <= most; k++ {
			buildAll(t, k, make([][]api.Run, 0, n))
		}
	}
}

// buildAll compares Build with the levels at each tick for all waves of k ticks after the given ones, up to their capacity.
func buildAll(t *testing.T, k int, waves [][]api.Run) {
	if len(waves) < cap(waves) {
		for _, l := range exactly(k, 1) {
			buildAll(t, k, append(waves, l))
		}
		return
	}
	var levels [][]int
	for _, l := range waves {
		levels = append(levels, drawn(l))
	}
	c, e := capture.Build(channels(len(waves)), waves)
	gives(t, fmt.Sprint(waves), c, e, of(len(waves), read(together(levels))))
}

// P9.4
func TestBuildOfManyChannels(t *testing.T) {
	r := rand.New(rand.NewSource(94))
	for range 300 {
		var waves [][]api.Run
		var levels [][]int
		n := r.Intn(60)
		for range 1 + r.Intn(16) {
			var l []int
			for range n {
				l = append(l, r.Intn(2))
			}
			wave := runs()
			for _, level := range l {
				wave = append(wave, api.Run{Level: level, Ticks: 1})
			}
			if r.Intn(2) == 0 {
				wave = read(l)
			}
			waves, levels = append(waves, wave), append(levels, l)
		}
		c, e := capture.Build(channels(len(waves)), waves)
		gives(t, fmt.Sprint(waves), c, e, of(len(waves), read(together(levels))))
	}
	// Each channel is the bit of its number.
	for i := range 16 {
		waves := slices.Repeat([][]api.Run{runs(0, 9)}, 16)
		waves[i] = runs(0, 3, 1, 4, 0, 2)
		c, e := capture.Build(channels(16), waves)
		gives(t, fmt.Sprint(i), c, e, of(16, runs(0, 3, int(math.Pow(2, float64(i))), 4, 0, 2)))
	}
}

// P9.4
func TestBuildOfManyRuns(t *testing.T) {
	const n, k = api.MaxRuns, end / api.MaxRuns
	alternating, equals := repeated(n, k, 0, 1), repeated(n, k, 1)
	for _, x := range []struct {
		waves [][]api.Run
		want  []api.Run
	}{
		{[][]api.Run{alternating}, alternating}, {[][]api.Run{alternating, alternating}, repeated(n, k, 0, 3)}, {[][]api.Run{equals}, runs(1, end)}, {[][]api.Run{equals, alternating, equals}, repeated(n, k, 5, 7)},
		{slices.Repeat([][]api.Run{equals}, 16), runs(1<<16-1, end)}, {slices.Repeat([][]api.Run{alternating}, 16), repeated(n, k, 0, 1<<16-1)},
		// Many more places where a run ends than runs of the result.
		{[][]api.Run{slices.Concat(runs(1, 1), repeated(n-2, k, 1), runs(1, 2*k-1)), equals, repeated(n/2, 2*k, 0)}, runs(3, end)},
		{[][]api.Run{slices.Concat(runs(0, 1), repeated(n-2, k, 0), runs(0, 2*k-1)), alternating}, repeated(n, k, 0, 2)},
		// All edges of both waves are different, and together they are the greatest number.
		{[][]api.Run{repeated(n/2, 2*k, 0, 1), slices.Concat(runs(0, k), repeated(n/2-1, 2*k, 1, 0), runs(0, k))}, repeated(n, k, 0, 2, 3, 1)},
	} {
		names := channels(len(x.waves))
		c, e := capture.Build(names, x.waves)
		gives(t, brief(x.waves[0]), c, e, api.Capture{Names: names, Runs: x.want})
	}
}

// P9.4
func TestBuildOfTooManyRuns(t *testing.T) {
	const n, k = api.MaxRuns, end / api.MaxRuns
	alternating := repeated(n, k, 0, 1)
	for _, waves := range [][][]api.Run{
		{alternating, runs(0, end-1, 1, 1)}, {alternating, runs(1, 1, 0, end-1)}, {runs(0, end-1, 1, 1), alternating}, {runs(0, k+1, 1, end-k-1), runs(1, end), alternating},
		{alternating, slices.Concat(runs(0, 1), repeated(n-2, k, 1, 0), runs(0, 2*k-1))}, {repeated(n/2, 2*k, 0, 1), slices.Concat(runs(0, k), repeated(n/2-1, 2*k, 1, 0), runs(0, k-1, 1, 1))},
	} {
		c, e := capture.Build(channels(len(waves)), waves)
		fails(t, brief(waves[0]), c, e, api.ErrLimit)
	}
}

// wrongWaves returns waves that are not valid.
func wrongWaves() [][]api.Run {
	return [][]api.Run{
		runs(2, 5), runs(-1, 5), runs(0, 3, 2, 2), runs(3, 5), runs(0, 0), runs(0, -1), runs(0, 5, 1, 0), runs(0, 6, 1, -1), runs(0, end+1), runs(0, end, 1, 1), runs(0, math.MaxInt, 1, math.MaxInt, 0, 7),
		runs(math.MinInt, 5), runs(math.MaxInt, 5), runs(0, math.MinInt), repeated(api.MaxRuns+1, 1, 0, 1), repeated(api.MaxRuns+1, 1, 0), repeated(2*api.MaxRuns, 1, 1), append(repeated(api.MaxRuns-1, 1, 0, 1), runs(2, 1)...),
	}
}

// P9.4
func TestBuildOfWrongNames(t *testing.T) {
	for _, x := range wrong() {
		if x.e == api.ErrRange || len(x.c.Runs) > api.MaxRuns {
			continue
		}
		for _, waves := range [][][]api.Run{
			nil, slices.Repeat([][]api.Run{runs(0, 3)}, len(x.c.Names)), slices.Repeat([][]api.Run{runs(2, 0)}, len(x.c.Names)), append(slices.Repeat([][]api.Run{runs(0, 3)}, len(x.c.Names)), runs(0, 4)),
		} {
			c, e := capture.Build(x.c.Names, waves)
			fails(t, text(x.c), c, e, x.e)
		}
	}
}

// P9.4
func TestBuildOfWrongWaves(t *testing.T) {
	valid := runs(0, 3, 1, 2)
	for _, l := range wrongWaves() {
		for _, waves := range [][][]api.Run{{l}, {l, valid}, {valid, l}, {valid, valid, l}, {valid, l, valid}, {l, l}, {valid, runs(1, 9), l}, {l, valid, nil}} {
			c, e := capture.Build(channels(len(waves)), waves)
			fails(t, brief(l), c, e, api.ErrArg)
		}
	}
	for n := 1; n <= 16; n++ {
		for k := range 20 {
			c, e := capture.Build(channels(n), slices.Repeat([][]api.Run{valid}, k))
			if what := fmt.Sprint(n, " names, ", k, " waves"); k != n {
				fails(t, what, c, e, api.ErrArg)
			} else {
				gives(t, what, c, e, of(n, runs(0, 3, 1<<n-1, 2)))
			}
		}
	}
	c, e := capture.Build(channels(2), [][]api.Run{valid, valid, runs(2, 5)})
	fails(t, "another wave, which is wrong", c, e, api.ErrArg)
	c, e = capture.Build(channels(2), [][]api.Run{valid, runs(1, 4), valid})
	fails(t, "another wave, and another length", c, e, api.ErrArg)
}

// P9.4
func TestBuildOfDifferentLengths(t *testing.T) {
	valid, alternating := runs(0, 3, 1, 2), repeated(api.MaxRuns, 1, 0, 1)
	for _, waves := range [][][]api.Run{
		{valid, runs(0, 4)}, {valid, runs(0, 6)}, {runs(1, 4), valid}, {valid, valid, runs(0, 3, 1, 3)}, {valid, runs(0, 3), valid}, {runs(0, 3), valid, valid}, {valid, nil}, {nil, valid}, {nil, nil, valid}, {valid, nil, nil},
		{runs(0, end), runs(0, end-1)}, {runs(0, end-1), runs(0, end)}, {runs(0, end), nil}, {runs(0, 1), runs(0, end)},
		// The lengths are judged before the number of runs.
		{alternating, runs(0, 1, 1, api.MaxRuns)}, {alternating, slices.Concat(runs(1, 1), alternating[:api.MaxRuns-1]), runs(1, 2)}, {alternating, times(alternating, 2)},
	} {
		c, e := capture.Build(channels(len(waves)), waves)
		fails(t, brief(waves[len(waves)-1]), c, e, api.ErrConflict)
	}
}

// P9.4
func TestOrderOfErrorsOfBuild(t *testing.T) {
	for bits := range 128 {
		names := defects(bits & 15)
		count := len(names)
		if bits&16 > 0 {
			count++
		}
		waves := slices.Repeat([][]api.Run{runs(0, 5)}, count)
		if bits&32 > 0 && count > 0 {
			waves[count-1] = runs(0, 5, 2, 1)
		}
		if bits&64 > 0 && count > 1 {
			waves[0] = runs(0, 6)
		}
		want := api.OK
		switch {
		case len(names) > 16:
			want = api.ErrLimit
		case len(names) == 0:
			want = api.ErrArg
		case bits&4 > 0:
			want = api.ErrSyntax
		case bits&8 > 0 && len(names) > 1:
			want = api.ErrDuplicate
		case bits&48 > 0:
			want = api.ErrArg
		case bits&64 > 0 && count > 1:
			want = api.ErrConflict
		}
		c, e := capture.Build(names, waves)
		if what := fmt.Sprint(names, waves); want != api.OK {
			fails(t, what, c, e, want)
		} else {
			gives(t, what, c, e, api.Capture{Names: names, Runs: runs(0, 5)})
		}
	}
}

// P9.8
func TestBuildOfAllChannels(t *testing.T) {
	r := rand.New(rand.NewSource(98))
	all := slices.Concat(right(), short())
	for i := range 1000 {
		all = append(all, random(r, 1+i%60))
	}
	for _, c := range all {
		built, e := capture.Build(c.Names, allChannels(t, c))
		gives(t, text(c), built, e, api.Capture{Names: c.Names, Runs: clean(c.Runs)})
		if !capture.Same(c, built) || capture.Long(c) != capture.Long(built) {
			t.Errorf("%s: not the same: %s", text(c), text(built))
		}
	}
}

// P9.3, P9.4, P9.6
func TestArgumentsAreKept(t *testing.T) {
	for _, l := range [][]api.Run{runs(1, 3, 1, 2, 2, 4), runs(1, 1, 3, 2, 2, 2), runs(3, 1, 3, 1, 3, 1), runs(0, 5), runs(1, 5, 0, 1, 0, 2, 0, 3)} {
		// The elements beyond the length belong to the caller as well.
		memory, names := append(slices.Clone(l), runs(5, 6, 7, 8, 9, 10)...), append(channels(2), "x", "y")
		kept := slices.Clone(memory)
		c := api.Capture{Names: names[:2], Runs: memory[:len(l)]}
		waves := allChannels(t, c)
		wave := slices.Clone(waves[1])
		built, _ := capture.Build(c.Names, waves)
		part, _ := capture.Slice(c, 0, capture.Long(c))
		again := [][]api.Run{slices.Clone(built.Runs), slices.Clone(part.Runs)}
		capture.Same(c, built)
		for i, r := range [][]api.Run{waves[0], built.Runs, part.Runs} {
			clear(r[:cap(r)])
			if !slices.Equal(memory, kept) || !slices.Equal(waves[1], wave) {
				t.Errorf("%v: result %d shares memory", l, i)
			}
		}
		for i, r := range [][]string{built.Names, part.Names} {
			clear(r[:cap(r)])
			if !slices.Equal(names, append(channels(2), "x", "y")) {
				t.Errorf("%v: result %d shares names", l, i)
			}
		}
		// Neither do the results depend on earlier ones.
		built, _ = capture.Build(c.Names, allChannels(t, c))
		part, _ = capture.Slice(c, 0, capture.Long(c))
		equal(t, "built again", built.Runs, again[0])
		equal(t, "cut again", part.Runs, again[1])
	}
}

// P9.4
func TestWavesAreKept(t *testing.T) {
	memory := runs(1, 2, 1, 1, 0, 2, 7, 8)
	waves := [][]api.Run{memory[:3], memory[:3], runs(0, 5)}
	c, e := capture.Build(channels(3), waves)
	gives(t, "three waves", c, e, named("a b c", 3, 3, 0, 2))
	equal(t, "wave", memory, runs(1, 2, 1, 1, 0, 2, 7, 8))
	clear(c.Runs[:cap(c.Runs)])
	equal(t, "wave", memory, runs(1, 2, 1, 1, 0, 2, 7, 8))
	if len(waves) != 3 || len(waves[0]) != 3 {
		t.Error(waves)
	}
}
