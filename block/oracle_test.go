package block_test

import (
	"slices"

	"signalbench/api"
)

// reading reads the fields of a stored form by cutting them off, and panics with the first error.
type reading struct{ b string }

// number reads a number of at most most.
func (r *reading) number(most uint64) uint64 {
	n, k := uint64(0), 0
	for {
		if len(r.b) == 0 {
			panic(api.ErrTruncated)
		}
		c := r.b[0]
		r.b = r.b[1:]
		if k > 0 && c == 0 || k == 9 && c > 1 {
			panic(api.ErrSyntax)
		}
		n += uint64(c&127) << (7 * k)
		k++
		if c < 128 {
			break
		}
	}
	if n > most {
		panic(api.ErrLimit)
	}
	return n
}

// bytes reads n bytes.
func (r *reading) bytes(n uint64) string {
	if uint64(len(r.b)) < n {
		panic(api.ErrTruncated)
	}
	s := r.b[:n]
	r.b = r.b[n:]
	return s
}

// four reads four bytes.
func (r *reading) four() uint64 {
	s := r.bytes(4)
	return uint64(s[0]) + uint64(s[1])<<8 + uint64(s[2])<<16 + uint64(s[3])<<24
}

// must panics with an error unless ok.
func must(ok bool, e api.Errno) {
	if !ok {
		panic(e)
	}
}

// read reads a stored form as the document describes it: the fields of its head, or the error of the head.
func read(b string) (s stored, e api.Errno) {
	defer func() {
		if x := recover(); x != nil {
			s, e = stored{}, x.(api.Errno)
		}
	}()
	must(len(b) >= 3, api.ErrTruncated)
	must(b[0] == 'S' && b[1] == 'B', api.ErrSyntax)
	must(b[2] == 1, api.ErrVersion)
	r := &reading{b[3:]}
	s.channels = r.number(16)
	for range s.channels {
		s.names = append(s.names, r.bytes(r.number(16)))
	}
	s.runs = r.number(1 << 18)
	s.ticks = r.number(1 << 40)
	s.blocks = r.number(1<<64 - 1)
	must(s.blocks == s.runs/16+min(s.runs%16, 1), api.ErrCorrupt)
	for range s.blocks {
		s.rows = append(s.rows, row{r.number(1 << 40), r.number(1 << 20), r.four()})
	}
	open := b[:len(b)-len(r.b)]
	must(r.four() == sum(open), api.ErrCorrupt)
	for i, x := range s.rows {
		must((i > 0 || x.first == 0) && (i == 0 || x.first > s.rows[i-1].first) && x.first < s.ticks, api.ErrCorrupt)
	}
	must(len(s.rows) > 0 || s.ticks == 0, api.ErrCorrupt)
	for _, x := range s.rows {
		s.bodies = append(s.bodies, r.bytes(x.size))
	}
	must(r.b == "", api.ErrSyntax)
	return s, api.OK
}

// block reads a block of a stored form as the document describes it: its runs, or false if it is corrupt.
func (s stored) block(i int) (l []api.Run, ok bool) {
	defer func() {
		if x := recover(); x != nil {
			l, ok = nil, false
		}
	}()
	must(sum(s.bodies[i]) == s.rows[i].sum, api.ErrCorrupt)
	r := &reading{s.bodies[i]}
	for k := 16 * i; k < min(16*i+16, int(s.runs)); k++ {
		level, n := r.number(1<<s.channels-1), r.number(1<<40)
		must(n > 0, api.ErrCorrupt)
		l = append(l, api.Run{Level: int(level), Ticks: int(n)})
	}
	must(r.b == "", api.ErrCorrupt)
	must(uint64(long(l)) == s.last(i)-s.rows[i].first, api.ErrCorrupt)
	return l, true
}

// last returns the tick after a block.
func (s stored) last(i int) uint64 {
	if i+1 < len(s.rows) {
		return s.rows[i+1].first
	}
	return s.ticks
}

// decoded is what Decode must return.
func decoded(b string) (api.Capture, api.Errno) {
	s, e := read(b)
	if e != api.OK {
		return api.Capture{}, e
	}
	var c api.Capture
	for i := range s.rows {
		l, ok := s.block(i)
		if !ok {
			return api.Capture{}, api.ErrCorrupt
		}
		c.Runs = append(c.Runs, l...)
	}
	if !slices.Equal(c.Runs, clean(c.Runs)) {
		return api.Capture{}, api.ErrCorrupt
	}
	for _, name := range s.names {
		c.Names = append(c.Names, name)
	}
	if e := wrongNames(c.Names); e != api.OK {
		return api.Capture{}, e
	}
	return c, api.OK
}

// found is what Find must return.
func found(b string, at int) (int, api.Errno) {
	s, e := read(b)
	if e != api.OK {
		return 0, e
	}
	if at < 0 || at >= int(s.ticks) {
		return 0, api.ErrRange
	}
	n := 0
	for i, x := range s.rows {
		if int(x.first) <= at {
			n = i
		}
	}
	return n, api.OK
}

// level is what At must return.
func level(b string, at int) (int, api.Errno) {
	i, e := found(b, at)
	if e != api.OK {
		return 0, e
	}
	s, _ := read(b)
	l, ok := s.block(i)
	if !ok {
		return 0, api.ErrCorrupt
	}
	return levelAt(l, at-int(s.rows[i].first)), api.OK
}

// ranged is what Range must return.
func ranged(b string, from, to int) ([]api.Run, api.Errno) {
	s, e := read(b)
	if e != api.OK {
		return nil, e
	}
	if from < 0 || from >= to || to > int(s.ticks) {
		return nil, api.ErrRange
	}
	var l []api.Run
	for i, x := range s.rows {
		first, last := int(x.first), int(s.last(i))
		if last <= from || first >= to {
			continue
		}
		r, ok := s.block(i)
		if !ok {
			return nil, api.ErrCorrupt
		}
		l = append(l, between(r, from-first, to-first)...)
	}
	return clean(l), api.OK
}
