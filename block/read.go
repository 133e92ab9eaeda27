package block

import (
	"strings"

	"signalbench/api"
	"signalbench/octet"
)

// field reads a field that begins at an index of b, and returns the index after it.
type field func(b string, at int) (int, api.Errno)

// reader returns a function that reads fields of b: the first one begins at the index at, and each of the others, of
// the same call or of a later one, where the one before it ends. The function returns the first error of its fields.
func reader(b string, at int) func(fields ...field) api.Errno {
	return func(fields ...field) api.Errno {
		for _, f := range fields {
			next, e := f(b, at)
			if e != api.OK {
				return e
			}
			at = next
		}
		return api.OK
	}
}

// readHead reads the head of a stored form and finds the bytes of its blocks, without reading them.
func readHead(b string) (head, api.Errno) {
	if e := checkStart(b); e != api.OK {
		return head{}, e
	}
	read := reader(b, len(sign)+1)
	names, e := readNames(read)
	if e != api.OK {
		return head{}, e
	}
	h := head{names: names}
	var runs int
	if e := read(number(&runs, api.MaxRuns), number(&h.long, api.MaxTime)); e != api.OK {
		return head{}, e
	}
	if h.parts, e = readTable(read, runs); e != api.OK {
		return head{}, e
	}
	var bytes string
	if e := read(sumBefore, rest(&bytes)); e != api.OK {
		return head{}, e
	}
	if !setEnds(h) {
		return head{}, api.ErrCorrupt
	}
	if e := setBytes(h, bytes); e != api.OK {
		return head{}, e
	}
	return h, api.OK
}

// checkStart returns the error of the sign and of the version, or OK.
func checkStart(b string) api.Errno {
	if len(b) < len(sign)+1 {
		return api.ErrTruncated
	}
	if !strings.HasPrefix(b, sign) {
		return api.ErrSyntax
	}
	if b[len(sign)] != version {
		return api.ErrVersion
	}
	return api.OK
}

// readNames reads the number of channels and their names.
func readNames(read func(...field) api.Errno) ([]string, api.Errno) {
	var n int
	if e := read(number(&n, api.MaxChannels)); e != api.OK {
		return nil, e
	}
	names := make([]string, n)
	for i := range names {
		if e := read(text(&names[i], api.MaxName)); e != api.OK {
			return nil, e
		}
	}
	return names, api.OK
}

// readTable reads the number of blocks and what the head tells of each, for a number of runs.
func readTable(read func(...field) api.Errno, runs int) ([]part, api.Errno) {
	n := (runs + api.BlockRuns - 1) / api.BlockRuns
	if e := read(exactly(n)); e != api.OK {
		return nil, e
	}
	var parts []part
	for i := range n {
		p := part{runs: min(runs-i*api.BlockRuns, api.BlockRuns)}
		if e := read(number(&p.first, api.MaxTime), number(&p.size, api.MaxText), four(&p.sum)); e != api.OK {
			return nil, e
		}
		parts = append(parts, p)
	}
	return parts, api.OK
}

// setEnds sets the ends of the blocks and reports whether the blocks divide the length of the capture.
func setEnds(h head) bool {
	end := h.long
	for i := len(h.parts) - 1; i >= 0; i-- {
		h.parts[i].end = end
		if h.parts[i].first >= end {
			return false
		}
		end = h.parts[i].first
	}
	// The first block begins at 0; without blocks this is the length.
	return end == 0
}

// setBytes sets the bytes of the blocks, which must be all that follows the head.
func setBytes(h head, bytes string) api.Errno {
	for i, p := range h.parts {
		if p.size > len(bytes) {
			return api.ErrTruncated
		}
		h.parts[i].bytes, bytes = bytes[:p.size], bytes[p.size:]
	}
	if bytes != "" {
		return api.ErrSyntax
	}
	return api.OK
}

// readParts returns the runs of successive blocks, or the error of the first one that has one.
func readParts(h head, parts []part) ([]api.Run, api.Errno) {
	var l []api.Run
	for _, p := range parts {
		runs, e := readPart(p, len(h.names))
		if e != api.OK {
			return nil, e
		}
		l = append(l, runs...)
	}
	return l, api.OK
}

// readPart returns the runs of a block of a capture of this many channels, or ErrCorrupt.
func readPart(p part, channels int) ([]api.Run, api.Errno) {
	if checksum(p.bytes) != p.sum {
		return nil, api.ErrCorrupt
	}
	read := reader(p.bytes, 0)
	l := make([]api.Run, p.runs)
	sum := 0
	for i := range l {
		e := read(number(&l[i].Level, 1<<channels-1), number(&l[i].Ticks, api.MaxTime))
		if e != api.OK || l[i].Ticks == 0 {
			return nil, api.ErrCorrupt
		}
		sum += l[i].Ticks
	}
	if sum != p.end-p.first || read(nothing) != api.OK {
		return nil, api.ErrCorrupt
	}
	return l, api.OK
}

// number returns a field that sets n to a number, which must be at most most.
func number(n *int, most int) field {
	return func(b string, at int) (int, api.Errno) {
		u, next, e := octet.TakeUint(b, at)
		// The comparison is unsigned because u may be greater than every int.
		if e == api.OK && u > uint64(most) {
			e = api.ErrLimit
		}
		*n = int(u)
		return next, e
	}
}

// exactly returns a field for the number n alone.
func exactly(n int) field {
	return func(b string, at int) (int, api.Errno) {
		u, next, e := octet.TakeUint(b, at)
		if e == api.OK && u != uint64(n) {
			e = api.ErrCorrupt
		}
		return next, e
	}
}

// text returns a field that sets s to a string of at most most bytes.
func text(s *string, most int) field {
	return func(b string, at int) (next int, e api.Errno) {
		*s, next, e = octet.TakeText(b, at, most)
		return next, e
	}
}

// four returns a field that sets n to the number of four bytes.
func four(n *int) field {
	return func(b string, at int) (int, api.Errno) {
		if len(b)-at < sumBytes {
			return 0, api.ErrTruncated
		}
		*n = 0
		for i := range sumBytes {
			*n |= int(b[at+i]) << (i * byteBits)
		}
		return at + sumBytes, api.OK
	}
}

// sumBefore is the field for the checksum of all bytes before it.
func sumBefore(b string, at int) (int, api.Errno) {
	var sum int
	next, e := four(&sum)(b, at)
	if e == api.OK && sum != checksum(b[:at]) {
		e = api.ErrCorrupt
	}
	return next, e
}

// rest returns a field that sets s to all bytes that are left.
func rest(s *string) field {
	return func(b string, at int) (int, api.Errno) {
		*s = b[at:]
		return len(b), api.OK
	}
}

// nothing is the field for the end of the bytes.
func nothing(b string, at int) (int, api.Errno) {
	if at < len(b) {
		return 0, api.ErrSyntax
	}
	return at, api.OK
}
