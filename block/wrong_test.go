package block_test

import (
	"math"
	"math/rand"
	"slices"
	"strings"
	"testing"

	"signalbench/api"
	"signalbench/block"
)

// spoilt is a stored form with the error of its head, or OK, and that of Decode.
type spoilt struct {
	what         string
	b            string
	head, decode api.Errno
}

// examine reports an error unless all functions return these errors and zero values.
func examine(t *testing.T, x spoilt) {
	t.Helper()
	if c, e := block.Decode(x.b); e != x.decode || e != api.OK && len(c.Names)+len(c.Runs) != 0 {
		t.Errorf("%s: Decode %q %s %d, not %d", x.what, c.Names, brief(c.Runs), e, x.decode)
	}
	if n, e := block.Count(x.b); e != x.head || e != api.OK && n != 0 {
		t.Errorf("%s: Count %d %d, not %d", x.what, n, e, x.head)
	}
	if x.head == api.OK {
		return
	}
	for _, at := range []int{-1, 0, 1, 1 << 41} {
		if n, e := block.Find(x.b, at); n != 0 || e != x.head {
			t.Errorf("%s: Find %d %d, not %d", x.what, n, e, x.head)
		}
		if n, e := block.At(x.b, at); n != 0 || e != x.head {
			t.Errorf("%s: At %d %d, not %d", x.what, n, e, x.head)
		}
		if l, e := block.Range(x.b, at, 2); len(l) != 0 || e != x.head {
			t.Errorf("%s: Range %s %d, not %d", x.what, brief(l), e, x.head)
		}
	}
}

// P10.2, P10.3, P10.4, P10.5: the errors of the head.
func TestWrongHeads(t *testing.T) {
	const o, s, l, v = api.ErrTruncated, api.ErrSyntax, api.ErrLimit, api.ErrVersion
	for _, x := range []spoilt{{b: "", head: o}, {b: "S", head: o}, {b: "SB", head: o}, {b: "XY", head: o}, {b: "XB\x01", head: s}, {b: "SX\x01", head: s}, {b: "BS\x01", head: s}, {b: "sb\x01", head: s}, {b: "XX\x02", head: s},
		{b: "SB\x00", head: v}, {b: "SB\x02", head: v}, {b: "SB\x81", head: v}, {b: "SB\xff", head: v}, {b: "SB1", head: v}, {b: "SB\x01", head: o},
		{b: "SB\x01\x80\x00", head: s}, {b: "SB\x01\x80", head: o}, {b: "SB\x01\x11", head: l}, {b: "SB\x01\x80\x01", head: l}, {b: "SB\x01" + put(math.MaxUint64), head: l}, {b: "SB\x01" + put(1<<63), head: l}, {b: "SB\x01\xff\xff\xff\xff\xff\xff\xff\xff\xff\x02", head: s}, {b: "SB\x01\x10", head: o},
		{b: "SB\x01\x01\x00", head: o}, {b: "SB\x01\x01\x81", head: o}, {b: "SB\x01\x01\x81\x00", head: s}, {b: "SB\x01\x01\x11", head: l}, {b: "SB\x01\x01\x11" + strings.Repeat("a", 17), head: l}, {b: "SB\x01\x01" + put(math.MaxUint64), head: l}, {b: "SB\x01\x01\x10" + strings.Repeat("a", 15), head: o}, {b: "SB\x01\x02\x01a", head: o}, {b: "SB\x01\x02\x01a\x02b", head: o},
		{b: "SB\x01\x00", head: o}, {b: "SB\x01\x01\x01a", head: o}, {b: "SB\x01\x01\x01a\x80\x00", head: s}, {b: "SB\x01\x01\x01a" + put(1<<18+1), head: l}, {b: "SB\x01\x01\x01a" + put(math.MaxUint64), head: l}, {b: "SB\x01\x01\x01a" + put(1<<63), head: l}, {b: "SB\x01\x01\x01a" + put(1<<18), head: o},
		{b: "SB\x01\x01\x01a\x02" + put(1<<40+1), head: l}, {b: "SB\x01\x01\x01a\x02" + put(1<<63), head: l}, {b: "SB\x01\x01\x01a\x02\x80\x00", head: s}, {b: "SB\x01\x01\x01a\x02" + put(1<<40), head: o},
		{b: "SB\x01\x01\x01a\x02\x0c\x00", head: api.ErrCorrupt}, {b: "SB\x01\x01\x01a\x02\x0c\x02", head: api.ErrCorrupt}, {b: "SB\x01\x01\x01a\x00\x00\x01", head: api.ErrCorrupt}, {b: "SB\x01\x01\x01a\x02\x0c" + put(1<<63), head: api.ErrCorrupt}, {b: "SB\x01\x01\x01a\x02\x0c" + put(1<<32+1), head: api.ErrCorrupt}, {b: "SB\x01\x01\x01a\x02\x0c" + put(math.MaxUint64), head: api.ErrCorrupt}, {b: "SB\x01\x01\x01a\x02\x0c\x81\x00", head: s}, {b: "SB\x01\x01\x01a\x02\x0c\x81", head: o}, {b: "SB\x01\x01\x01a\x10\x0c\x02", head: api.ErrCorrupt}, {b: "SB\x01\x01\x01a\x11\x0c\x01", head: api.ErrCorrupt}, {b: "SB\x01\x01\x01a\x11\x0c\x02", head: o},
		{b: "SB\x01\x01\x01a\x02\x0c\x01", head: o}, {b: "SB\x01\x01\x01a\x02\x0c\x01" + put(1<<40+1), head: l}, {b: "SB\x01\x01\x01a\x02\x0c\x01" + put(1<<40), head: o}, {b: "SB\x01\x01\x01a\x02\x0c\x01\x00" + put(1<<20+1), head: l}, {b: "SB\x01\x01\x01a\x02\x0c\x01\x00" + put(1<<63), head: l}, {b: "SB\x01\x01\x01a\x02\x0c\x01\x00" + put(1<<20), head: o},
		{b: "SB\x01\x01\x01a\x02\x0c\x01\x00\x04abc", head: o}, {b: "SB\x01\x01\x01a\x02\x0c\x01\x00\x04abcdefg", head: o}, {b: "SB\x01\x01\x01a\x02\x0c\x01\x00\x04abcdefgh", head: api.ErrCorrupt}, {b: "SB\x01\x01\x01a\x02\x0c\x01\x00\x04abcdefgh\x01\x08\x00\x04", head: api.ErrCorrupt},
	} {
		x.what, x.decode = short(x.b), x.head
		examine(t, x)
	}
}

// P10.2, P10.3: what the head says of the blocks.
func TestWrongTables(t *testing.T) {
	s := fields(of(2, repeated(40, 10, 0, 3, 2, 1)))
	change := func(what string, e api.Errno, f func(s *stored)) {
		c := s.copied()
		f(&c)
		want := e
		if want == api.OK {
			want = api.ErrCorrupt
		}
		examine(t, spoilt{what, c.text(), e, want})
	}
	const bad = api.ErrCorrupt
	for i, first := range [][]uint64{{1, 2, 400, 1 << 40}, {0, 320, 321, 400, 1 << 40}, {160, 0, 159, 400, 401, 1 << 40}} {
		for _, n := range first {
			change("first tick", bad, func(s *stored) { s.rows[i].first = n })
		}
	}
	change("first tick of the second block", api.OK, func(s *stored) { s.rows[1].first = 1 })
	change("first tick of the second block", api.OK, func(s *stored) { s.rows[1].first = 319 })
	change("first tick of the third block", api.OK, func(s *stored) { s.rows[2].first = 399 })
	for _, n := range []uint64{0, 1, 160, 319, 320} {
		change("length", bad, func(s *stored) { s.ticks = n })
	}
	for _, n := range []uint64{321, 399, 401, 1 << 40} {
		change("length", api.OK, func(s *stored) { s.ticks = n })
	}
	for i := range s.rows {
		change("a byte more", api.ErrTruncated, func(s *stored) { s.rows[i].size++ })
		change("all bytes", api.ErrTruncated, func(s *stored) { s.rows[i].size = 1 << 20 })
		change("a byte less", api.ErrSyntax, func(s *stored) { s.rows[i].size-- })
		change("no bytes", api.ErrSyntax, func(s *stored) { s.rows[i].size = 0 })
		change("checksum", api.OK, func(s *stored) { s.rows[i].sum ^= 1 << (10 * i) })
	}
	change("a byte of the next block", api.OK, func(s *stored) { s.rows[0].size++; s.rows[1].size-- })
	change("a byte after the blocks", api.ErrSyntax, func(s *stored) { s.extra = "\x00" })
	change("a missing byte", api.ErrTruncated, func(s *stored) { s.bodies[2] = s.bodies[2][1:] })
	change("a missing block", api.ErrTruncated, func(s *stored) { s.bodies = s.bodies[:2] })
	change("no blocks", api.ErrTruncated, func(s *stored) { s.bodies = nil })
	for _, n := range []uint64{33, 39, 41, 48} {
		change("number of runs", api.OK, func(s *stored) { s.runs = n })
	}
	for _, n := range []uint64{0, 1, 16, 32, 49, 640, 1 << 18} {
		change("number of runs", bad, func(s *stored) { s.runs = n })
	}
	none := fields(named("a"))
	for _, n := range []uint64{1, 2, 1 << 40} {
		none.ticks = n
		examine(t, spoilt{"length without blocks", none.text(), bad, bad})
	}
}

// P10.2, P10.4, P10.5: the errors of a block.
func TestWrongBlocks(t *testing.T) {
	for _, n := range []int{1, 2, 15, 16} {
		// Three blocks, of which the last one has 3 runs of 10 ticks each.
		c := of(n, repeated(35, 10, 0, 1))
		s := fields(c)
		const ten = "\x0a"
		for _, x := range []struct {
			what, body string
		}{
			{"nothing", ""}, {"a run less", "\x00\x0a\x01\x14"}, {"a run more", "\x00\x0a\x01\x05\x00\x05\x01\x0a"}, {"half a run", "\x00\x0a\x01\x0a\x00"}, {"a byte more", "\x00\x0a\x01\x0a\x00\x0a\x00"}, {"no end", "\x00\x0a\x01\x0a\x00\x8a"},
			{"a long number", "\x00\x0a\x01\x0a\x00\x8a\x00"}, {"a long level", "\x80\x00\x0a\x01\x0a\x00\x0a"}, {"more than 64 bits", "\xff\xff\xff\xff\xff\xff\xff\xff\xff\x02\x0a\x01\x0a\x00\x0a"},
			{"a level beyond the channels", "\x00\x0a" + put(1<<n) + "\x0a\x00\x0a"}, {"a level beyond the channels", put(1<<n) + "\x0a\x01\x0a\x00\x0a"}, {"a level beyond the channels", "\x00\x0a\x01\x0a" + put(1<<n+1) + "\x0a"}, {"a great level", "\x00\x0a" + put(1<<63) + "\x0a\x00\x0a"}, {"a great level", "\x00\x0a" + put(math.MaxUint64) + "\x0a\x00\x0a"}, {"a great level", "\x00\x0a" + put(1<<32) + "\x0a\x00\x0a"},
			{"no ticks", "\x00\x14\x01\x00\x00\x0a"}, {"no ticks at the end", "\x00\x14\x01\x0a\x00\x00"}, {"no ticks at the beginning", "\x00\x00\x01\x14\x00\x0a"}, {"more than MaxTime ticks", "\x00\x0a\x01" + put(1<<40+1) + "\x00\x0a"}, {"a negative number of ticks", "\x00\x14\x01" + put(math.MaxUint64-9) + "\x00\x14"}, {"half of all numbers", "\x00" + put(1<<63) + "\x01" + put(1<<63) + "\x00\x1e"},
			{"a tick less", "\x00\x0a\x01\x09\x00\x0a"}, {"a tick more", "\x00\x0a\x01\x0a\x00\x0b"}, {"many ticks", "\x00\x0a\x01" + put(1<<40) + "\x00\x0a"}, {"few ticks", "\x00\x01\x01\x01\x00\x01"}, {"long", strings.Repeat("\x00\x0a", 5000)},
		} {
			for i := range 3 {
				full := x.body
				if i < 2 {
					full = strings.Repeat("\x00"+ten+"\x01"+ten, 6) + "\x01" + ten + x.body
				}
				wrongBlock(t, x.what, c, s.with(i, full), i)
			}
		}
	}
}

// wrongBlock examines a stored form of which the block i of three is wrong.
func wrongBlock(t *testing.T, what string, c api.Capture, s stored, i int) {
	t.Helper()
	b := s.text()
	examine(t, spoilt{what, b, api.OK, api.ErrCorrupt})
	for at := 0; at < 350; at += 5 {
		level, e := block.At(b, at)
		if at/160 == i && (level != 0 || e != api.ErrCorrupt) || at/160 != i && (level != levelAt(c.Runs, at) || e != api.OK) {
			t.Errorf("%s: block %d wrong, level at %d: %d %d", what, i, at, level, e)
		}
		l, e := block.Range(b, at, at+1)
		if at/160 == i && (len(l) != 0 || e != api.ErrCorrupt) || at/160 != i && (len(l) != 1 || e != api.OK) {
			t.Errorf("%s: block %d wrong, range at %d: %s %d", what, i, at, brief(l), e)
		}
	}
	if l, e := block.Range(b, 0, 350); len(l) != 0 || e != api.ErrCorrupt {
		t.Errorf("%s: range of all %s %d", what, brief(l), e)
	}
}

// P10.2, P10.4, P10.5: equal levels of successive runs are an error of Decode alone.
func TestRunsThatAreNotClean(t *testing.T) {
	for k := range 39 {
		c := of(2, repeated(40, 10, 0, 3, 2, 1))
		c.Runs[k+1].Level = c.Runs[k].Level
		b := fields(c).text()
		examine(t, spoilt{"equal levels", b, api.OK, api.ErrCorrupt})
		for at := range 400 {
			if level, e := block.At(b, at); level != levelAt(c.Runs, at) || e != api.OK {
				t.Errorf("equal levels, at %d: %d %d", at, level, e)
			}
		}
		for _, x := range []api.Span{{From: 0, To: 400}, {From: 10*k + 5, To: 10*k + 15}, {From: 10 * k, To: 10*k + 20}, {From: 10*k + 9, To: 10*k + 11}} {
			l, e := block.Range(b, x.From, x.To)
			sameRuns(t, "range", l, e, between(c.Runs, x.From, x.To))
		}
	}
}

// P10.2: the error of the names comes last.
func TestWrongNames(t *testing.T) {
	for _, x := range []struct {
		names []string
		e     api.Errno
	}{
		{nil, api.ErrArg}, {[]string{"A"}, api.ErrSyntax}, {[]string{""}, api.ErrSyntax}, {[]string{"a", "1"}, api.ErrSyntax}, {[]string{"a", "a", "B"}, api.ErrSyntax}, {[]string{"a\xff"}, api.ErrSyntax}, {[]string{"a", "a"}, api.ErrDuplicate}, {[]string{"a", "b", "c", "b"}, api.ErrDuplicate}, {[]string{"a_long_name_of16", "b"}, api.OK},
	} {
		for _, n := range []int{0, 1, 20} {
			l := repeated(n, 10, 0, 1)
			if len(x.names) == 0 {
				// Without channels there is no level but 0.
				l = repeated(min(n, 1), 10, 0)
			}
			c := api.Capture{Names: x.names, Runs: l}
			b := fields(c).text()
			examine(t, spoilt{"names " + strings.Join(x.names, ","), b, api.OK, x.e})
			for at := range long(l) {
				if level, e := block.At(b, at); level != levelAt(l, at) || e != api.OK {
					t.Errorf("%q: at %d %d %d", x.names, at, level, e)
				}
			}
			if n := len(l); n > 0 {
				examine(t, spoilt{"names and a block", fields(c).with(0, "x").text(), api.OK, api.ErrCorrupt})
				r, e := block.Range(b, 0, long(l))
				sameRuns(t, "range", r, e, l)
			}
			if n > 1 {
				c.Runs = repeated(n, 10, 0)
				examine(t, spoilt{"names and equal levels", fields(c).text(), api.OK, api.ErrCorrupt})
			}
		}
	}
}

// agree compares all functions with what the document says of these bytes.
func agree(t *testing.T, b string) {
	t.Helper()
	want, e := decoded(b)
	if c, f := block.Decode(b); f != e || !slices.Equal(c.Names, want.Names) || !slices.Equal(c.Runs, want.Runs) {
		t.Errorf("%s: Decode %q %s %d, not %q %s %d", short(b), c.Names, brief(c.Runs), f, want.Names, brief(want.Runs), e)
	}
	if e == api.OK {
		if again, f := block.Encode(want); f != api.OK || again != b {
			t.Errorf("%s: encoded again %s %d", short(b), short(again), f)
		}
	}
	s, e := read(b)
	if n, f := block.Count(b); f != e || n != len(s.rows) {
		t.Errorf("%s: Count %d %d, not %d %d", short(b), n, f, len(s.rows), e)
	}
	ats := []int{-1, 0, int(s.ticks) / 2, int(s.ticks) - 1, int(s.ticks)}
	for _, x := range s.rows {
		ats = append(ats, int(x.first))
	}
	for _, at := range ats {
		want, e := found(b, at)
		if n, f := block.Find(b, at); f != e || n != want {
			t.Errorf("%s: Find %d: %d %d, not %d %d", short(b), at, n, f, want, e)
		}
		want, e = level(b, at)
		if n, f := block.At(b, at); f != e || n != want {
			t.Errorf("%s: At %d: %d %d, not %d %d", short(b), at, n, f, want, e)
		}
	}
	for _, x := range []api.Span{{From: 0, To: int(s.ticks)}, {From: 0, To: 1}, {From: 1, To: int(s.ticks) - 1}, {From: int(s.ticks) - 1, To: int(s.ticks)}, {From: 1, To: 1}} {
		want, e := ranged(b, x.From, x.To)
		if l, f := block.Range(b, x.From, x.To); f != e || !slices.Equal(l, want) {
			t.Errorf("%s: Range %v: %s %d, not %s %d", short(b), x, brief(l), f, brief(want), e)
		}
	}
}

// P10.2 to P10.5: bytes that are inserted, removed and replaced.
func TestChangedBytes(t *testing.T) {
	for _, c := range []api.Capture{named("a"), named("a", 1, 8, 0, 4), named("ab c", 3, 200, 1, 16384, 0, 1), of(2, repeated(17, 128, 0, 3, 2, 1)), of(16, runs(1<<16-1, 1<<35, 0, 1))} {
		s := fields(c)
		for _, open := range changes(s.open()) {
			agree(t, closed(open)+s.tail())
		}
		for i := range s.bodies {
			for _, x := range changes(s.bodies[i]) {
				agree(t, s.with(i, x).text())
			}
		}
		for _, b := range changes(s.text()) {
			agree(t, b)
		}
	}
}

// changes returns strings that differ from b in one place.
func changes(b string) []string {
	all := []string{b, b + "\x00", b + b}
	for i := range b {
		all = append(all, b[:i], b[i:], b[:i]+b[i+1:], b[:i]+b[i:i+1]+b[i:])
		for _, x := range []byte{0, 1, 2, 3, 4, 15, 16, 17, 18, 127, 128, 129, 255, b[i] + 1, b[i] - 1, b[i] ^ 128} {
			all = append(all, b[:i]+string([]byte{x})+b[i+1:], b[:i]+string([]byte{x})+b[i:])
		}
		if i > 0 {
			all = append(all, b[:i-1]+b[i:i+1]+b[i-1:i]+b[i+1:])
		}
	}
	return all
}

// P10.2 to P10.5: some fields changed at once.
func TestChangedFields(t *testing.T) {
	r := rand.New(rand.NewSource(3))
	numbers := []uint64{0, 1, 2, 3, 15, 16, 17, 20, 39, 40, 41, 48, 49, 127, 128, 160, 320, 399, 400, 401, 1 << 16, 1 << 18, 1<<18 + 1, 1 << 20, 1<<20 + 1, 1 << 40, 1<<40 + 1, 1 << 62, 1 << 63, math.MaxUint64}
	one := func() uint64 { return numbers[r.Intn(len(numbers))] }
	c := of(2, repeated(40, 10, 0, 3, 2, 1))
	for range 20000 {
		s := fields(c)
		for range 1 + r.Intn(3) {
			i := r.Intn(len(s.rows))
			switch r.Intn(14) {
			case 0:
				s.sign = []string{"SB", "BS", "S", "", "SBS"}[r.Intn(5)]
			case 1:
				s.version = byte(r.Intn(3))
			case 2:
				s.channels = one()
			case 3:
				s.names[r.Intn(2)] = []string{"\x01a", "\x01b", "\x00", "\x01A", "\x02a", "\x11aaaaaaaaaaaaaaaaa", "\x81\x00a"}[r.Intn(7)]
			case 4:
				s.runs = one()
			case 5:
				s.ticks = one()
			case 6:
				s.blocks = one()
			case 7:
				s.rows[i].first = one()
			case 8:
				s.rows[i].size = one()
			case 9:
				s.rows[i].sum++
			case 10:
				s.extra = "x"
			case 11:
				s.bodies[i] = s.bodies[i][r.Intn(2):]
			case 12:
				s = s.with(i, strings.Replace(s.bodies[i], []string{"\x00", "\x01", "\x02", "\x03", "\x0a"}[r.Intn(5)], put(one()), 1+r.Intn(2)))
			case 13:
				s.runs, s.blocks = s.runs+16, s.blocks+1
			}
		}
		b := s.text()
		if r.Intn(10) == 0 {
			b = b[:r.Intn(len(b))]
		}
		agree(t, b)
	}
}
