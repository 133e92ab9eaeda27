package block_test

import (
	"math"
	"math/rand"
	"slices"
	"strings"
	"testing"

	"signalbench/api"
	"signalbench/block"
	"signalbench/capture"
)

// P10.1, P10.3, P10.4: the chapter's examples.
func TestExamples(t *testing.T) {
	c := named("a", 1, 8, 0, 4)
	b, e := block.Encode(c)
	if e != api.OK || len(b) != 23 || !strings.HasPrefix(b, "SB\x01\x01\x01a\x02\x0c\x01\x00\x04") || !strings.HasSuffix(b, "\x01\x08\x00\x04") {
		t.Fatal(short(b), e)
	}
	if n, e := block.Count(b); n != 1 || e != api.OK {
		t.Error(n, e)
	}
	for at, want := range map[int]int{0: 1, 7: 1, 8: 0, 11: 0} {
		if level, e := block.At(b, at); level != want || e != api.OK {
			t.Error(at, level, e)
		}
	}
	if n, e := block.Find(b, 12); n != 0 || e != api.ErrRange {
		t.Error(n, e)
	}
	d, e := block.Decode(b)
	same(t, "decoded", d, e, c)
}

// P10.1, P10.2, P10.6: other divisions into runs are stored in the same way.
func TestStoredForm(t *testing.T) {
	r := rand.New(rand.NewSource(1))
	all := append(right(), great()...)
	for range 200 {
		all = append(all, random(r, 1+r.Intn(200)))
	}
	for _, c := range all {
		b, e := block.Encode(c)
		if want := form(c); e != api.OK || b != want {
			t.Errorf("%q %s: %s %d, not %s", c.Names, brief(c.Runs), short(b), e, short(want))
		}
		d, e := block.Decode(b)
		same(t, "decoded", d, e, api.Capture{Names: c.Names, Runs: clean(c.Runs)})
		if again, e := block.Encode(d); e != api.OK || again != b {
			t.Errorf("%s: again %s %d", short(b), short(again), e)
		}
		if len(c.Runs) > 0 && !capture.Same(c, d) {
			t.Errorf("%s: not the same", short(b))
		}
		halved := api.Capture{Names: c.Names}
		for _, x := range c.Runs {
			if x.Ticks > 1 {
				halved.Runs = append(halved.Runs, runs(x.Level, x.Ticks/2, x.Level, x.Ticks-x.Ticks/2)...)
			} else {
				halved.Runs = append(halved.Runs, x)
			}
		}
		if len(halved.Runs) <= api.MaxRuns {
			if other, e := block.Encode(halved); e != api.OK || other != b {
				t.Errorf("%s: with halved runs %s %d", short(b), short(other), e)
			}
		}
	}
}

// P10.1: the pieces of the checksum of a head.
func TestHeadsOfPieces(t *testing.T) {
	for _, size := range []int{4095, 4096, 4097, 8191, 8192, 8193} {
		// A block takes from 6 to 9 bytes of the head, and the name is as long as the head needs.
		for n, found := size/9*16, false; !found; n += 16 {
			c := api.Capture{Names: []string{"n"}, Runs: repeated(n, 3, 0, 1)}
			k := size - len(fields(c).open())
			if found = k >= 0 && k < 16; !found {
				continue
			}
			c.Names[0] += strings.Repeat("n", k)
			if len(fields(c).open()) != size {
				t.Errorf("no head of %d bytes", size)
			}
			b, e := block.Encode(c)
			if e != api.OK || b != form(c) {
				t.Errorf("a head of %d bytes: %s %d", size, short(b), e)
			}
			d, e := block.Decode(b)
			same(t, "decoded", d, e, c)
		}
	}
}

// P10.1
func TestEncodeOfWrongCaptures(t *testing.T) {
	for _, x := range []struct {
		c api.Capture
		e api.Errno
	}{
		{api.Capture{}, api.ErrArg}, {api.Capture{Runs: runs(0, 1)}, api.ErrArg}, {api.Capture{Names: []string{}, Runs: runs(-1, 0)}, api.ErrArg},
		{of(17, nil), api.ErrLimit}, {of(17, runs(-1, 1)), api.ErrLimit}, {of(1, repeated(api.MaxRuns+1, 1, 0, 1)), api.ErrLimit}, {of(1, repeated(api.MaxRuns+1, 1, 0)), api.ErrLimit}, {api.Capture{Runs: repeated(api.MaxRuns+1, 1, 0)}, api.ErrLimit},
		{named("A", 1, 1), api.ErrSyntax}, {named("1a"), api.ErrSyntax}, {named("a_long_name_of_17"), api.ErrSyntax}, {api.Capture{Names: []string{""}}, api.ErrSyntax}, {api.Capture{Names: []string{"a", "b c"}}, api.ErrSyntax}, {named("a a A", 5, 1), api.ErrSyntax},
		{named("a a", 1, 1), api.ErrDuplicate}, {named("a b a"), api.ErrDuplicate}, {named("a a", -1, 1), api.ErrDuplicate},
		{named("a", 2, 1), api.ErrRange}, {named("a b", 3, 1, 4, 1), api.ErrRange}, {of(16, runs(1<<16, 1)), api.ErrRange}, {named("a", -1, 1), api.ErrRange}, {named("a", math.MinInt, 1), api.ErrRange}, {named("a", math.MaxInt, 1), api.ErrRange},
		{named("a", 1, 0), api.ErrRange}, {named("a", 1, -1), api.ErrRange}, {named("a", 1, math.MinInt), api.ErrRange}, {named("a", 1, end+1), api.ErrRange}, {named("a", 1, end, 0, 1), api.ErrRange}, {named("a", 1, end, 1, 1), api.ErrRange}, {named("a", 1, math.MaxInt, 0, math.MaxInt, 1, 2), api.ErrRange},
	} {
		if b, e := block.Encode(x.c); b != "" || e != x.e {
			t.Errorf("%q %s: %s %d, not %d", x.c.Names, brief(x.c.Runs), short(b), e, x.e)
		}
	}
}

// P10.3, P10.4, P10.5, P10.7
func TestAccess(t *testing.T) {
	for _, c := range right() {
		b := form(c)
		blocks, first := blocksOf(c)
		if n, e := block.Count(b); n != len(blocks) || e != api.OK {
			t.Errorf("%s: %d blocks %d, not %d", short(b), n, e, len(blocks))
		}
		n := long(c.Runs)
		all := ticks(c.Runs)
		for _, at := range all {
			i, e := block.Find(b, at)
			level, f := block.At(b, at)
			if at < 0 || at >= n {
				if i != 0 || e != api.ErrRange || level != 0 || f != api.ErrRange {
					t.Errorf("%s: at %d %d %d %d %d", short(b), at, i, e, level, f)
				}
				continue
			}
			if want := sortedIn(first, at); i != want || e != api.OK {
				t.Errorf("%s: block at %d %d %d, not %d", short(b), at, i, e, want)
			}
			if want := levelAt(c.Runs, at); level != want || f != api.OK {
				t.Errorf("%s: level at %d %d %d, not %d", short(b), at, level, f, want)
			}
		}
		if len(all) > 100 {
			all = append(all[:2], all[len(all)-60:]...)
		}
		ranges(t, c, b, all)
	}
}

// sortedIn returns the number of the last tick that is not greater than at.
func sortedIn(first []int, at int) int {
	n := 0
	for i := range first {
		if first[i] <= at {
			n = i
		}
	}
	return n
}

// ranges compares Range with the capture for all pairs of these ticks.
func ranges(t *testing.T, c api.Capture, b string, all []int) {
	t.Helper()
	for _, from := range all {
		for _, to := range all {
			l, e := block.Range(b, from, to)
			if from < 0 || from >= to || to > long(c.Runs) {
				if len(l) != 0 || e != api.ErrRange {
					t.Errorf("%s: from %d to %d %s %d", short(b), from, to, brief(l), e)
				}
				continue
			}
			sameRuns(t, "range", l, e, between(c.Runs, from, to))
			if part, f := capture.Slice(c, from, to); f != e || !slices.Equal(part.Runs, l) {
				t.Errorf("%s: from %d to %d %s, not as Slice", short(b), from, to, brief(l))
			}
		}
	}
}

// P10.3, P10.4, P10.5, P10.7
func TestAccessToManyBlocks(t *testing.T) {
	c := of(2, repeated(api.MaxRuns, 1<<22, 0, 3, 2, 1))
	b := form(c)
	if n, e := block.Count(b); n != 1<<14 || e != api.OK {
		t.Error(n, e)
	}
	r := rand.New(rand.NewSource(2))
	for i := range 12 {
		at := r.Intn(end)
		if i%3 == 1 {
			at = at >> 26 << 26
		}
		if i%3 == 2 {
			at = at>>26<<26 + 1<<26 - 1
		}
		if n, e := block.Find(b, at); n != at>>26 || e != api.OK {
			t.Errorf("block at %d: %d %d", at, n, e)
		}
		if n, e := block.At(b, at); n != []int{0, 3, 2, 1}[at>>22&3] || e != api.OK {
			t.Errorf("level at %d: %d %d", at, n, e)
		}
		to := min(at+r.Intn(1<<28)+1, end)
		l, e := block.Range(b, at, to)
		sameRuns(t, "range", l, e, between(c.Runs, at, to))
	}
	l, e := block.Range(b, 0, end)
	sameRuns(t, "all", l, e, c.Runs)
	l, e = block.Range(b, end-1, end)
	sameRuns(t, "last tick", l, e, runs(1, 1))
}

// P10.3, P10.4, P10.5: what is outside the capture.
func TestOutside(t *testing.T) {
	numbers := []int{math.MinInt, math.MinInt + 1, -end, -2, -1, 0, 1, 11, 12, 13, end - 1, end, end + 1, math.MaxInt - 1, math.MaxInt}
	for _, c := range []api.Capture{named("a"), named("a", 1, 8, 0, 4), named("a", 1, end)} {
		b, n := form(c), long(c.Runs)
		for _, from := range numbers {
			if inside := from >= 0 && from < n; !inside {
				if i, e := block.Find(b, from); i != 0 || e != api.ErrRange {
					t.Errorf("%d ticks: block at %d: %d %d", n, from, i, e)
				}
				if level, e := block.At(b, from); level != 0 || e != api.ErrRange {
					t.Errorf("%d ticks: level at %d: %d %d", n, from, level, e)
				}
			}
			for _, to := range numbers {
				l, e := block.Range(b, from, to)
				if from < 0 || from >= to || to > n {
					if len(l) != 0 || e != api.ErrRange {
						t.Errorf("%d ticks: from %d to %d: %s %d", n, from, to, brief(l), e)
					}
				} else {
					sameRuns(t, "inside", l, e, between(c.Runs, from, to))
				}
			}
		}
	}
}

// P10.8: each bit of each block, inverted.
func TestDamage(t *testing.T) {
	for _, c := range []api.Capture{named("a", 1, 8, 0, 4), of(2, repeated(49, 300, 0, 3, 2, 1, 1)), of(16, repeated(33, 1<<30, 1<<16-1, 0, 1<<15)), of(1, repeated(40, 1, 0, 1))} {
		b := form(c)
		blocks, first := blocksOf(c)
		from := len(b) - len(fields(api.Capture{Names: c.Names, Runs: clean(c.Runs)}).tail())
		for i, l := range blocks {
			for k := range 8 * len(body(l)) {
				x := []byte(b)
				x[from+k/8] ^= 1 << (k % 8)
				damaged(t, c, string(x), i, blocks, first)
			}
			from += len(body(l))
		}
	}
}

// damaged compares the access to a stored form of which the block n is damaged with the capture.
func damaged(t *testing.T, c api.Capture, b string, n int, blocks [][]api.Run, first []int) {
	t.Helper()
	if d, e := block.Decode(b); e != api.ErrCorrupt || len(d.Names)+len(d.Runs) != 0 {
		t.Errorf("%s: %s %d", short(b), brief(d.Runs), e)
	}
	if count, e := block.Count(b); count != len(blocks) || e != api.OK {
		t.Errorf("%s: %d blocks %d", short(b), count, e)
	}
	for i, l := range blocks {
		last := first[i] + long(l)
		for _, at := range []int{first[i], first[i] + l[0].Ticks, last - 1} {
			if at == last {
				continue
			}
			if k, e := block.Find(b, at); k != i || e != api.OK {
				t.Errorf("%s: block at %d: %d %d", short(b), at, k, e)
			}
			level, e := block.At(b, at)
			if i == n && (level != 0 || e != api.ErrCorrupt) || i != n && (level != levelAt(c.Runs, at) || e != api.OK) {
				t.Errorf("%s: block %d damaged, level at %d in block %d: %d %d", short(b), n, at, i, level, e)
			}
		}
		part, e := block.Range(b, first[i], last)
		if i != n {
			sameRuns(t, "range", part, e, l)
		} else if len(part) != 0 || e != api.ErrCorrupt {
			t.Errorf("%s: block %d damaged, range: %s %d", short(b), n, brief(part), e)
		}
	}
}

// P10.3, P10.4, P10.5: only the blocks of the ticks are read.
func TestOtherBlocksAreNotRead(t *testing.T) {
	c := of(2, repeated(80, 300, 0, 3, 2, 1))
	s := fields(c)
	for from := range s.rows {
		for to := from + 1; to <= len(s.rows); to++ {
			d := s.copied()
			for i := range d.bodies {
				if i < from || i >= to {
					d.bodies[i] = strings.Repeat("\xff", len(d.bodies[i]))
				}
			}
			b := d.text()
			if n, e := block.Count(b); n != 5 || e != api.OK {
				t.Errorf("%d blocks %d", n, e)
			}
			// From the last tick of the first one to the first tick of the last one.
			for _, x := range []api.Span{{From: from * 4800, To: to * 4800}, {From: from*4800 + 4799, To: (to-1)*4800 + 1}, {From: from * 4800, To: (to-1)*4800 + 1}, {From: from*4800 + 4799, To: to * 4800}} {
				if x.From < x.To {
					l, e := block.Range(b, x.From, x.To)
					sameRuns(t, "range", l, e, between(c.Runs, x.From, x.To))
				}
				if l, e := block.Range(b, x.From, (to+1)*4800-4799); to < 5 && (len(l) != 0 || e != api.ErrCorrupt) {
					t.Errorf("one tick more: %s %d", brief(l), e)
				}
				if l, e := block.Range(b, from*4800-1, x.To); from > 0 && (len(l) != 0 || e != api.ErrCorrupt) {
					t.Errorf("one tick before: %s %d", brief(l), e)
				}
			}
			for at := 0; at < 80*300; at += 299 {
				inside := at >= from*4800 && at < to*4800
				level, e := block.At(b, at)
				if inside && (level != levelAt(c.Runs, at) || e != api.OK) || !inside && (level != 0 || e != api.ErrCorrupt) {
					t.Errorf("level at %d: %d %d", at, level, e)
				}
				if n, e := block.Find(b, at); n != at/4800 || e != api.OK {
					t.Errorf("block at %d: %d %d", at, n, e)
				}
			}
		}
	}
}

// R2
func TestArgumentsAreKept(t *testing.T) {
	c := named("a b", 3, 5, 3, 6, 1, 7, 1, 2, 0, 9)
	before := api.Capture{Names: slices.Clone(c.Names), Runs: slices.Clone(c.Runs)}
	b, e := block.Encode(c)
	same(t, "argument", c, e, before)
	d, _ := block.Decode(b)
	l, _ := block.Range(b, 0, 20)
	for i := range d.Names {
		d.Names[i] = "z"
	}
	for i := range d.Runs {
		d.Runs[i].Level = 9
	}
	l[0].Level = 9
	again, e := block.Decode(b)
	same(t, "after a change of the first result", again, e, named("a b", 3, 11, 1, 9, 0, 9))
	l, e = block.Range(b, 0, 20)
	sameRuns(t, "after a change of the first result", l, e, runs(3, 11, 1, 9))
}
