package decodertest

import (
	"slices"

	"signalbench/api"
)

// Level returns an event of a level.
func Level(value, from, to int) api.Event {
	return api.Event{Kind: api.EvLevel, From: from, To: to, Value: value}
}

// Levels returns events of levels, the first of which begins at a tick, with these levels and numbers of ticks, which alternate.
func Levels(at int, n ...int) []api.Event {
	var l []api.Event
	for i := 0; i < len(n); i += 2 {
		l = append(l, Level(n[i], at, at+n[i+1]))
		at += n[i+1]
	}
	return l
}

// Drawn returns events of one tick each with the n lowest bits of a number as levels, the lowest one at tick 0.
func Drawn(number, n int) []api.Event {
	var l []api.Event
	for i := range n {
		l = append(l, Level(number>>i&1, i, i+1))
	}
	return l
}

// Cut returns events of levels with adjacent ones of one level joined, apart from the bounds between two of them that a mask selects.
func Cut(l []api.Event, mask int) []api.Event {
	var all []api.Event
	for i, e := range l {
		last := len(all) - 1
		if i > 0 && mask>>(i-1)&1 == 0 && all[last].Value == e.Value {
			all[last].To = e.To
		} else {
			all = append(all, e)
		}
	}
	return all
}

// Shifted returns events that are later by some ticks.
func Shifted(l []api.Event, by int) []api.Event {
	l = slices.Clone(l)
	for i := range l {
		l[i].From += by
		l[i].To += by
	}
	return l
}

// WrongLevels returns events that differ from an event of one channel in ways in which no decoder of levels accepts them.
func WrongLevels(e api.Event) []api.Event {
	return slices.Concat(Invalid(e), OtherKinds(e), Faulty(e), Changed(e, Value, -1<<53, -2, -1, 2, 3, 4, 1<<16, 1<<53), Changed(e, To, e.From))
}

// Misplaced returns events of levels that do not begin where the given one does.
func Misplaced(e api.Event) []api.Event {
	var l []api.Event
	for _, from := range []int{0, e.From - 1, e.From + 1, e.To - 1} {
		if from != e.From {
			l = append(l, Changed(e, From, from)...)
		}
	}
	return append(l, Level(e.Value, e.To, e.To+8), Level(1-e.Value, e.To, e.To+8), Level(1, api.MaxTime-1, api.MaxTime))
}

// AcceptedLevels returns events that mean the same as the given one to every decoder of levels.
func AcceptedLevels(e api.Event) []api.Event {
	return slices.Concat(Changed(e, Aux, -1<<53, -1, 1, 1<<53), OtherData(e))
}
