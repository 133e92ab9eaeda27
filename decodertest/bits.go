package decodertest

import (
	"slices"
	"strings"

	"signalbench/api"
)

// Bit returns an event of a bit.
func Bit(value, from, to int) api.Event {
	return api.Event{Kind: api.EvBit, From: from, To: to, Value: value}
}

// Bits returns an event of 4 ticks for each bit of s, one after the other, the first one from a tick on.
func Bits(s string, at int) []api.Event {
	var l []api.Event
	for i := range len(s) {
		l = append(l, Bit(int(s[i]-'0'), at+4*i, at+4*i+4))
	}
	return l
}

// WrongBits returns events that differ from the given one in a way in which no decoder of bits accepts them.
func WrongBits(e api.Event) []api.Event {
	return slices.Concat(Invalid(e), OtherKinds(e), Changed(e, Value, -1<<53, -2, -1, 2, 3, 4, 48, 49, 1<<53))
}

// EarlyBits returns events of bits that begin before some tick, which is not 0, so that no decoder accepts them after an event
// that begins there.
func EarlyBits(tick int) []api.Event {
	return []api.Event{Bit(0, tick-1, tick), Bit(1, tick-1, tick+8), Bit(1, tick-1, tick-1), Bit(0, 0, api.MaxTime), Bit(1, 0, 0)}
}

// RandomTimes returns events for the bits of s with random times, some of which are the same, overlap or are empty, and with
// other random fields, but without faults. The function number returns a random number from 0 to below its argument.
func RandomTimes(s string, number func(int) int) []api.Event {
	var l []api.Event
	from := number(1 << number(39))
	for i := range len(s) {
		e := Bit(int(s[i]-'0'), from, from+number(20))
		if number(3) == 0 {
			e.Aux = number(1<<54) - 1<<53
			e.Data = strings.Repeat("x", number(5))
		}
		l = append(l, e)
		from += number(3) * number(20)
	}
	return l
}
