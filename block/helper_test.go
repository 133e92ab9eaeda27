package block_test

import (
	"encoding/binary"
	"fmt"
	"hash/crc32"
	"math/rand"
	"slices"
	"strings"
	"testing"

	"signalbench/api"
	"signalbench/lex"
)

const end = api.MaxTime

// runs returns runs of these levels and ticks, which alternate.
func runs(n ...int) []api.Run {
	var l []api.Run
	for i := 0; i < len(n); i += 2 {
		l = append(l, api.Run{Level: n[i], Ticks: n[i+1]})
	}
	return l
}

// named returns the capture with these names, which blanks separate, and these levels and ticks, which alternate.
func named(names string, n ...int) api.Capture {
	return api.Capture{Names: strings.Fields(names), Runs: runs(n...)}
}

// repeated returns n runs of k ticks each whose levels are these, again and again.
func repeated(n, k int, levels ...int) []api.Run {
	var l []api.Run
	for i := range n {
		l = append(l, api.Run{Level: levels[i%len(levels)], Ticks: k})
	}
	return l
}

// of returns the capture of a number of channels with these runs.
func of(n int, l []api.Run) api.Capture {
	return api.Capture{Names: strings.Fields("a b c d e f g h i j k l m n o p q")[:n], Runs: l}
}

// clean joins successive runs of one level.
func clean(l []api.Run) []api.Run {
	var r []api.Run
	for i, x := range l {
		if i == 0 || l[i-1].Level != x.Level {
			r = append(r, api.Run{Level: x.Level})
		}
		r[len(r)-1].Ticks += x.Ticks
	}
	return r
}

// long returns the number of ticks.
func long(l []api.Run) int {
	n := 0
	for _, r := range l {
		n += r.Ticks
	}
	return n
}

// row is what the head of a stored form says of a block.
type row struct{ first, size, sum uint64 }

// stored is a stored form, field by field. Names are stored with the numbers of their bytes.
type stored struct {
	sign                          string
	version                       byte
	channels, runs, ticks, blocks uint64
	names                         []string
	rows                          []row
	bodies                        []string
	extra                         string
}

// put is the encoding of numbers.
func put(n ...uint64) string {
	var b []byte
	for _, x := range n {
		b = binary.AppendUvarint(b, x)
	}
	return string(b)
}

// four is the encoding of a number as four bytes.
func four(n uint64) string {
	return string(binary.LittleEndian.AppendUint32(nil, uint32(n)))
}

// sum is the checksum of bytes.
func sum(b string) uint64 {
	n := uint64(0)
	for i := 0; i == 0 || i < len(b); i += 4096 {
		n = uint64(crc32.ChecksumIEEE([]byte(four(n) + b[i:min(i+4096, len(b))])))
	}
	return n
}

// body is the stored form of the runs of a block.
func body(l []api.Run) string {
	s := ""
	for _, r := range l {
		s += put(uint64(r.Level), uint64(r.Ticks))
	}
	return s
}

// fields returns the fields of the stored form of a capture whose runs are clean, or are to be stored as they are.
func fields(c api.Capture) stored {
	s := stored{sign: "SB", version: 1, channels: uint64(len(c.Names)), runs: uint64(len(c.Runs)), ticks: uint64(long(c.Runs))}
	for _, name := range c.Names {
		s.names = append(s.names, put(uint64(len(name)))+name)
	}
	first := 0
	for l := c.Runs; len(l) > 0; {
		k := min(16, len(l))
		b := body(l[:k])
		s.rows = append(s.rows, row{uint64(first), uint64(len(b)), sum(b)})
		s.bodies = append(s.bodies, b)
		first += long(l[:k])
		l = l[k:]
	}
	s.blocks = uint64(len(s.rows))
	return s
}

// copied returns the fields as new memory.
func (s stored) copied() stored {
	s.names, s.rows, s.bodies = slices.Clone(s.names), slices.Clone(s.rows), slices.Clone(s.bodies)
	return s
}

// with returns the fields with other bytes of a block, and what the head says of them.
func (s stored) with(i int, b string) stored {
	s = s.copied()
	s.bodies[i], s.rows[i].size, s.rows[i].sum = b, uint64(len(b)), sum(b)
	return s
}

// open is the head without its checksum.
func (s stored) open() string {
	b := s.sign + string([]byte{s.version}) + put(s.channels) + strings.Join(s.names, "") + put(s.runs, s.ticks, s.blocks)
	var l strings.Builder
	for _, r := range s.rows {
		l.WriteString(put(r.first, r.size) + four(r.sum))
	}
	return b + l.String()
}

// tail is all that follows the head.
func (s stored) tail() string { return strings.Join(s.bodies, "") + s.extra }

// text is the stored form, with the checksum of the head that its bytes have.
func (s stored) text() string { return closed(s.open()) + s.tail() }

// closed returns a head with its checksum.
func closed(open string) string { return open + four(sum(open)) }

// form returns the stored form of a capture.
func form(c api.Capture) string {
	return fields(api.Capture{Names: c.Names, Runs: clean(c.Runs)}).text()
}

// blocksOf returns the runs of each block of the capture, and its first tick.
func blocksOf(c api.Capture) ([][]api.Run, []int) {
	var all [][]api.Run
	var first []int
	tick := 0
	for i, r := range clean(c.Runs) {
		if i%16 == 0 {
			all, first = append(all, nil), append(first, tick)
		}
		all[i/16] = append(all[i/16], r)
		tick += r.Ticks
	}
	return all, first
}

// levelAt returns the level at a tick, -1 outside.
func levelAt(l []api.Run, at int) int {
	for _, r := range l {
		if at >= 0 && at < r.Ticks {
			return r.Level
		}
		at -= r.Ticks
	}
	return -1
}

// between returns the clean runs from the tick from to before the tick to.
func between(l []api.Run, from, to int) []api.Run {
	var r []api.Run
	at := 0
	for _, x := range l {
		low, high := max(at, from), min(at+x.Ticks, to)
		at += x.Ticks
		if high > low {
			r = append(r, api.Run{Level: x.Level, Ticks: high - low})
		}
	}
	return clean(r)
}

// ticks returns ticks at and around all bounds of runs, and outside.
func ticks(l []api.Run) []int {
	all := []int{-end, -1}
	at := 0
	for _, r := range l {
		all = append(all, at, at+r.Ticks/2, at+r.Ticks-1)
		at += r.Ticks
	}
	all = append(all, at, at+1, 2*end)
	slices.Sort(all)
	return slices.Compact(all)
}

// random returns a random valid capture of up to n runs.
func random(r *rand.Rand, n int) api.Capture {
	var l []api.Run
	count := 1 + r.Intn(16)
	shift := r.Intn(36)
	for range r.Intn(n + 1) {
		l = append(l, api.Run{Level: r.Intn(1 << min(count, 1+r.Intn(16))), Ticks: 1 + r.Intn(end/n)>>shift})
	}
	return of(count, l)
}

// right returns valid captures: ordinary ones, and those at the limits of every field.
func right() []api.Capture {
	all := []api.Capture{named("a"), named("a b c"), of(16, nil), named("a", 1, 8, 0, 4), named("a", 0, 1), named("a", 1, 1), named("a_long_name_of16", 1, 1, 0, 127, 1, 128),
		named("a b", 3, 5, 3, 6, 3, 7), named("a b", 0, 4, 0, 3, 3, 2, 3, 1, 1, 1), named("a", 0, end), named("a", 0, end-1, 1, 1), named("a", 1, end/2, 1, end/2), named("b a", 2, 1<<31, 1, 1<<32, 0, 1<<33),
		of(16, runs(1<<16-1, 1, 0, 2, 1<<15, 3, 1, 4, 0x5555, 5, 0xaaaa, end-15)), of(8, runs(127, 127, 128, 128, 255, 16383, 0, 16384, 129, 1<<21-1, 1, 1<<21))}
	for _, n := range []int{1, 2, 15, 16, 17, 18, 31, 32, 33, 47, 48, 49, 64, 100} {
		all = append(all, of(1, repeated(n, 1, 0, 1)), of(1, repeated(n, 7, 1, 0)), of(2, repeated(n, 300, 0, 3, 2, 1, 1)), of(16, repeated(n, 1<<33, 1<<16-1, 0, 1<<15)), of(3, repeated(n, 4, 7, 7, 2)))
	}
	return all
}

// great returns captures of many runs.
func great() []api.Capture {
	const n, k = api.MaxRuns, end / api.MaxRuns
	return []api.Capture{of(1, repeated(n, 1, 0, 1)), of(2, repeated(n, k, 0, 3, 2, 1, 1)), of(16, repeated(n, k, 1<<16-1, 0, 1<<15)), of(16, repeated(n, k, 5)), of(3, repeated(n-1, k, 7, 6, 6, 0))}
}

// brief returns the beginning and the length of a list as text.
func brief[T any](l []T) string { return fmt.Sprint(l[:min(len(l), 10)], " of ", len(l)) }

// short returns the beginning and the length of a string as text.
func short(s string) string { return fmt.Sprintf("%d bytes % x", len(s), s[:min(len(s), 60)]) }

// sameRuns reports an error unless a call returned exactly these runs.
func sameRuns(t *testing.T, what string, l []api.Run, e api.Errno, want []api.Run) {
	t.Helper()
	if e != api.OK || !slices.Equal(l, want) {
		t.Errorf("%s: %s %d, not %s", what, brief(l), e, brief(want))
	}
}

// same reports an error unless a call returned exactly this capture.
func same(t *testing.T, what string, c api.Capture, e api.Errno, want api.Capture) {
	t.Helper()
	if e != api.OK || !slices.Equal(c.Names, want.Names) || !slices.Equal(c.Runs, want.Runs) {
		t.Errorf("%s: %q %s %d, not %q %s", what, c.Names, brief(c.Runs), e, want.Names, brief(want.Runs))
	}
}

// wrongNames returns the error of the names of a capture, or OK.
func wrongNames(names []string) api.Errno {
	if len(names) == 0 {
		return api.ErrArg
	}
	seen := map[string]bool{}
	for _, name := range names {
		if !lex.Name(name) {
			return api.ErrSyntax
		}
		seen[name] = true
	}
	if len(seen) < len(names) {
		return api.ErrDuplicate
	}
	return api.OK
}
