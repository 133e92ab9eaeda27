package manchester

import (
	"signalbench/api"
	"signalbench/decoder"
)

// channels is the number of channels that a decoder reads.
const channels = 1

// The phases of a state. In every state, At is the end of the accepted events, or 0 if there are none, and Prev is the
// last level of the signal. In a synchronous one, From is the last middle of a bit, though the next edge may turn out
// to be so far from it that the decoder is idle.
const (
	idle = iota
	synchronous
)

// edge processes a change of the signal to a level at a tick, for the bit time t.
func edge(t api.Ratio, s api.State, at, level int) (api.State, []api.Event) {
	if s.Phase == idle || at-s.From >= twoBits(t) {
		if level == 1 {
			s.Phase, s.From = synchronous, at
		}
		return s, nil
	}
	bit := api.Event{Kind: api.EvBit, From: s.From + decoder.Sample(t, 0), To: at, Value: level}
	// The distance is less than two bits, so its multiples do not overflow.
	switch quarters := 4 * (at - s.From) * t.Den; {
	case quarters > 5*t.Num:
		bit.Value, bit.Fault = 0, api.FtCode
		fallthrough
	case quarters >= 3*t.Num:
		s.From = at
		return s, []api.Event{bit}
	}
	// The edge is at the boundary of a bit.
	return s, nil
}

// twoBits returns the least number of ticks that is not less than two bit times.
func twoBits(t api.Ratio) int {
	return (2*t.Num + t.Den - 1) / t.Den
}
