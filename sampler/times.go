package sampler

import (
	"signalbench/api"
	"signalbench/decoder"
)

// The functions of this file count ticks from an anchor; t is the bit time.

// samples returns the number of samples before a tick.
func samples(t api.Ratio, tick int) int {
	k := wholeBits(t, tick)
	// The samples of the bits before this one lie before the tick, and those of the bits after it do not.
	if decoder.Sample(t, k) < tick {
		k++
	}
	return k
}

// irregular reports whether a change at a tick is farther than a quarter of a bit from the nearest boundary.
func irregular(t api.Ratio, tick int) bool {
	k := wholeBits(t, tick)
	distance := min(tick-decoder.Boundary(t, k), decoder.Boundary(t, k+1)-tick)
	return 4*distance*t.Den > t.Num
}

// wholeBits returns the number of whole bit times before a tick, which is at or between the boundaries of this number and the next one.
func wholeBits(t api.Ratio, tick int) int {
	return decoder.Scaled(tick, t.Den, t.Num)
}
