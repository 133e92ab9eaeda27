package decoder

import (
	"signalbench/api"
	"signalbench/ratio"
)

// The least and the greatest number of ticks of a bit.
const (
	leastTicks = 4
	mostTicks  = 1 << 20
)

// CheckBitTime returns the error of a bit time that a decoder cannot have, or OK.
func CheckBitTime(t api.Ratio) api.Errno {
	if !ratio.Valid(t) {
		return api.ErrArg
	}
	if ratio.Cmp(t, api.Ratio{Num: leastTicks, Den: 1}) < 0 || ratio.Cmp(t, api.Ratio{Num: mostTicks, Den: 1}) > 0 {
		return api.ErrRange
	}
	return api.OK
}

// Boundary returns the number of ticks after which bit k begins, for the bit time t.
func Boundary(t api.Ratio, k int) int {
	return Scaled(k, t.Num, t.Den)
}

// Sample returns the number of ticks after which the sample of bit k lies, for the bit time t.
func Sample(t api.Ratio, k int) int {
	return Scaled(2*k+1, t.Num, 2*t.Den)
}

// Scaled returns the greatest integer that is not greater than n * num / den, for an n that is not negative
// and for parts of a ratio.
func Scaled(n, num, den int) int {
	// The product of n and num could overflow, but not that of num and a remainder of den: both have at most 31 bits.
	return n/den*num + n%den*num/den
}
