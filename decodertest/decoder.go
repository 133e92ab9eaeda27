package decodertest

import (
	"math"
	"strings"

	"signalbench/api"
)

// Decoder holds functions of a decoder with configurations of some type.
type Decoder[C any] struct {
	Start func(C) api.State
	Step  func(C, api.State, api.Event) (api.State, []api.Event)
	End   func(C, api.State) []api.Event
}

// After returns the state after some events.
func (d Decoder[C]) After(c C, l []api.Event) api.State {
	s := d.Start(c)
	for _, e := range l {
		s, _ = d.Step(c, s, e)
	}
	return s
}

// Steps returns what Step returns for each event, and at last what End returns.
func (d Decoder[C]) Steps(c C, l []api.Event) [][]api.Event {
	var all [][]api.Event
	s := d.Start(c)
	for _, e := range l {
		next, events := d.Step(c, s, e)
		s, all = next, append(all, events)
	}
	return append(all, d.End(c, s))
}

// NotIgnored returns those of some events that change a state or emit something.
func (d Decoder[C]) NotIgnored(c C, s api.State, l []api.Event) []api.Event {
	var all []api.Event
	for _, e := range l {
		if next, events := d.Step(c, s, e); next != s || len(events) > 0 {
			all = append(all, e)
		}
	}
	return all
}

// OtherStates calls Step and End with states that no decoder makes. The events are those that it reads after some tick,
// the second of which follows the first one.
func (d Decoder[C]) OtherStates(c C, events func(at int) [][2]api.Event) {
	numbers := []int{math.MinInt, math.MinInt + 1, -1 << 40, -1, 0, 1, 2, 5, 6, 48, 1 << 39, api.MaxTime, api.MaxTime + 1, 1 << 62, math.MaxInt - 1, math.MaxInt}
	for _, phase := range numbers {
		for _, at := range numbers {
			for _, from := range numbers {
				s := api.State{Phase: phase, At: at, From: from, Count: from, Acc: at, Aux: phase, Prev: phase}
				for _, data := range []string{"", "x", "1100", "111101100010001", strings.Repeat("\x00", 69)} {
					s.Data = data
					d.use(c, s, events(at))
				}
			}
		}
	}
}

// use calls Step and End with a state and with pairs of events.
func (d Decoder[C]) use(c C, s api.State, pairs [][2]api.Event) {
	for _, pair := range pairs {
		next, _ := d.Step(c, s, pair[0])
		next, _ = d.Step(c, next, pair[1])
		d.End(c, next)
	}
	d.End(c, s)
}

// LevelsAfter returns pairs of events of one channel, some of which begin at a tick.
func LevelsAfter(at int) [][2]api.Event {
	return [][2]api.Event{
		{Level(0, at, at+16), Level(1, at+16, at+32)}, {Level(1, at, at+16), Level(0, at+16, at+32)},
		{Level(1, 6, 22), Level(0, 22, 38)}, {Level(1, api.MaxTime-1, api.MaxTime), Level(0, api.MaxTime, api.MaxTime+16)},
	}
}
