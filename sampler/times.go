package sampler

import "signalbench/api"

// The functions of this file count ticks from an anchor; t is the bit time.

// boundary returns the tick of the boundary k.
func boundary(t api.Ratio, k int) int {
	return scaled(k, t.Num, t.Den)
}

// sample returns the tick of the sample k.
func sample(t api.Ratio, k int) int {
	return scaled(2*k+1, t.Num, 2*t.Den)
}

// samples returns the number of samples before a tick.
func samples(t api.Ratio, tick int) int {
	k := wholeBits(t, tick)
	// The samples of the bits before this one lie before the tick, and those of the bits after it do not.
	if sample(t, k) < tick {
		k++
	}
	return k
}

// irregular reports whether a change at a tick is farther than a quarter of a bit from the nearest boundary.
func irregular(t api.Ratio, tick int) bool {
	k := wholeBits(t, tick)
	distance := min(tick-boundary(t, k), boundary(t, k+1)-tick)
	return 4*distance*t.Den > t.Num
}

// wholeBits returns the number of whole bit times before a tick, which is at or between the boundaries of this number and the next one.
func wholeBits(t api.Ratio, tick int) int {
	return scaled(tick, t.Den, t.Num)
}

// scaled returns the greatest integer that is not greater than n * num / den, for an n that is not negative.
func scaled(n, num, den int) int {
	// The product of n and num could overflow, but not that of num and a remainder of den: both have at most 31 bits.
	return n/den*num + n%den*num/den
}
