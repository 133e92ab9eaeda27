package decodertest

import (
	"math"
	"math/bits"

	"signalbench/api"
)

// BitTimes returns valid bit times: the least and the greatest ones, whole and broken ones, and ones with the greatest parts.
func BitTimes() []api.Ratio {
	return []api.Ratio{
		{Num: 4, Den: 1}, {Num: 9, Den: 2}, {Num: 5, Den: 1}, {Num: 13, Den: 3}, {Num: 23, Den: 5}, {Num: 6, Den: 1}, {Num: 20, Den: 3}, {Num: 8, Den: 1},
		{Num: 434, Den: 5}, {Num: 100, Den: 1}, {Num: 1<<30 - 3, Den: 1<<28 - 1}, {Num: 1 << 30, Den: 1<<28 - 1}, {Num: 1<<30 - 1, Den: 1 << 27},
		{Num: 1<<30 - 1, Den: 1 << 20}, {Num: 1 << 30, Den: 1025}, {Num: 1<<30 - 1, Den: 1 << 10}, {Num: 1 << 20, Den: 1},
	}
}

// WrongBitTimes returns bit times that are not valid, and their errors.
func WrongBitTimes() map[api.Ratio]api.Errno {
	all := map[api.Ratio]api.Errno{}
	// Ratios that are not valid, whatever their value is.
	for _, t := range []api.Ratio{
		{}, {Num: 8}, {Num: 8, Den: 2}, {Num: 18, Den: 4}, {Num: 2, Den: 2}, {Den: 2}, {Num: 8, Den: -1}, {Num: -8, Den: -1}, {Num: -9, Den: -2}, {Num: -8, Den: 2},
		{Num: 1<<30 + 1, Den: 1 << 20}, {Num: 1<<30 + 1, Den: 1}, {Num: -1<<30 - 1, Den: 1}, {Num: 1 << 33, Den: 1<<30 + 1}, {Num: math.MaxInt, Den: 1 << 44},
		{Num: math.MinInt, Den: math.MinInt}, {Num: math.MinInt, Den: 1}, {Num: math.MaxInt, Den: math.MaxInt - 1}, {Num: 1 << 62, Den: 1<<60 - 1},
	} {
		all[t] = api.ErrArg
	}
	// Valid ratios that are less than 4 or greater than 2^20.
	for _, t := range []api.Ratio{
		{Num: 0, Den: 1}, {Num: 1, Den: 1}, {Num: 3, Den: 1}, {Num: 7, Den: 2}, {Num: 1, Den: 1 << 30}, {Num: 1<<30 - 1, Den: 1 << 30},
		{Num: -8, Den: 1}, {Num: -9, Den: 2}, {Num: -1 << 30, Den: 1}, {Num: 4*(1<<28) - 1, Den: 1 << 28}, {Num: 4*(1<<28-1) - 1, Den: 1<<28 - 1},
		{Num: 1<<20 + 1, Den: 1}, {Num: 2<<20 + 1, Den: 2}, {Num: 1023<<20 + 1, Den: 1023}, {Num: 1 << 30, Den: 1}, {Num: 1 << 30, Den: 1023}, {Num: 1<<30 - 1, Den: 1},
	} {
		all[t] = api.ErrRange
	}
	return all
}

// Times returns the greatest integer that is not greater than n * t / d, from a product of 128 bits.
func Times(t api.Ratio, n, d int) int {
	high, low := bits.Mul64(uint64(n), uint64(t.Num))
	quotient, _ := bits.Div64(high, low, uint64(d)*uint64(t.Den))
	return int(quotient)
}
