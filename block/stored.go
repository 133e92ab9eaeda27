package block

import (
	"slices"

	"signalbench/api"
	"signalbench/check"
	"signalbench/octet"
)

const (
	sign       = "SB" // the first bytes of every stored form
	version    = 1    // the byte after the sign
	sumBytes   = 4    // bytes of a checksum
	byteBits   = 8    // bits of a byte
	pieceBytes = 4096 // bytes of a piece of a checksum
)

// head is what the head of a stored form tells.
type head struct {
	names []string
	long  int // length of the capture in ticks
	parts []part
}

// part is a block: some runs of the capture, from the tick first to before the tick end, and how they are stored.
type part struct {
	first, end int
	runs       int // number of runs
	size       int // number of bytes
	sum        int // checksum of the bytes
	bytes      string
}

// divided returns the blocks of the clean runs of a capture.
func divided(l []api.Run) []part {
	var parts []part
	tick := 0
	for runs := range slices.Chunk(l, api.BlockRuns) {
		p := part{first: tick, runs: len(runs)}
		var b []byte
		for _, r := range runs {
			b = octet.PutUint(b, uint64(r.Level))
			b = octet.PutUint(b, uint64(r.Ticks))
			tick += r.Ticks
		}
		p.end, p.size, p.sum, p.bytes = tick, len(b), checksum(string(b)), string(b)
		parts = append(parts, p)
	}
	return parts
}

// putHead returns the head of the stored form of a capture with these blocks.
func putHead(names []string, runs, long int, parts []part) []byte {
	b := append([]byte(sign), version)
	b = putNumber(b, len(names))
	for _, name := range names {
		b = octet.PutText(b, name)
	}
	b = putNumber(b, runs)
	b = putNumber(b, long)
	b = putNumber(b, len(parts))
	for _, p := range parts {
		b = putNumber(b, p.first)
		b = putNumber(b, p.size)
		b = append(b, fourBytes(p.sum)...)
	}
	return append(b, fourBytes(checksum(string(b)))...)
}

// putNumber appends a number that is not negative, within the memory of b: PutUint(b, n) would copy a long head for
// each of its numbers.
func putNumber(b []byte, n int) []byte {
	return append(b, octet.PutUint(nil, uint64(n))...)
}

// checksum returns the checksum of bytes.
func checksum(b string) int {
	c, _ := check.Named("crc32")
	sum := 0
	for first := true; first || b != ""; first = false {
		n := min(len(b), pieceBytes)
		// The description is valid, and a piece with four bytes more is short enough, so there is no error.
		sum, _ = check.Bytes(c, string(fourBytes(sum))+b[:n])
		b = b[n:]
	}
	return sum
}

// fourBytes returns the four bytes of a number, the least significant one first.
func fourBytes(n int) []byte {
	var b []byte
	for range sumBytes {
		b = append(b, byte(n))
		n >>= byteBits
	}
	return b
}
