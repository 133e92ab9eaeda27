// Package decodertest makes inputs for the tests of decoders. The program itself does not use it.
package decodertest

import (
	"math"
	"slices"
	"strings"

	"signalbench/api"
)

// Changed returns copies of an event, each with one of some numbers in a field.
func Changed(e api.Event, field func(*api.Event) *int, numbers ...int) []api.Event {
	var l []api.Event
	for _, n := range numbers {
		other := e
		*field(&other) = n
		l = append(l, other)
	}
	return l
}

// The fields of an event.
func Kind(e *api.Event) *int  { return &e.Kind }
func From(e *api.Event) *int  { return &e.From }
func To(e *api.Event) *int    { return &e.To }
func Value(e *api.Event) *int { return &e.Value }
func Aux(e *api.Event) *int   { return &e.Aux }
func Fault(e *api.Event) *int { return &e.Fault }

// Invalid returns events that are not valid, each because of one field.
func Invalid(e api.Event) []api.Event {
	long := e
	long.Data = strings.Repeat("1", api.MaxData+1)
	return slices.Concat(
		Changed(e, Kind, math.MinInt, -1, 0, api.EvPair+1, math.MaxInt),
		Changed(e, From, math.MinInt, -1, e.To+1, math.MaxInt),
		Changed(e, To, math.MinInt, -1, e.From-1, api.MaxTime+1, math.MaxInt),
		Changed(e, Value, math.MinInt, -1<<53-1, 1<<53+1, math.MaxInt),
		Changed(e, Aux, math.MinInt, -1<<53-1, 1<<53+1, math.MaxInt),
		Changed(e, Fault, math.MinInt, -1, api.FtUnknown+1, math.MaxInt),
		[]api.Event{long},
	)
}

// OtherKinds returns the event with each valid kind that it does not have.
func OtherKinds(e api.Event) []api.Event {
	var l []api.Event
	for kind := api.EvLevel; kind <= api.EvPair; kind++ {
		if kind != e.Kind {
			l = append(l, Changed(e, Kind, kind)...)
		}
	}
	return l
}

// Faulty returns the event with each valid fault.
func Faulty(e api.Event) []api.Event {
	var l []api.Event
	for fault := api.FtFraming; fault <= api.FtUnknown; fault++ {
		l = append(l, Changed(e, Fault, fault)...)
	}
	return l
}

// OtherData returns the event with other data and with no data.
func OtherData(e api.Event) []api.Event {
	var l []api.Event
	for _, data := range []string{"", "x", "\x00\xff", strings.Repeat("1", api.MaxData)} {
		other := e
		other.Data = data
		l = append(l, other)
	}
	return l
}

// Sequence returns the n lowest bits of a number, the lowest one first.
func Sequence(number, n int) string {
	var s strings.Builder
	for i := range n {
		s.WriteByte('0' + byte(number>>i&1))
	}
	return s.String()
}

// Spoil overwrites a list with an element, also behind its end.
func Spoil[T any](l []T, x T) {
	l = l[:cap(l)]
	for i := range l {
		l[i] = x
	}
}

// EveryByte returns all bytes, the least one first.
func EveryByte() string {
	b := make([]byte, 256)
	for i := range b {
		b[i] = byte(i)
	}
	return string(b)
}
