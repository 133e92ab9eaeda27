package decoder

import (
	"signalbench/api"
	"signalbench/event"
)

// AcceptsLevel reports whether a decoder of the port api.EvLevel with some channels accepts e if the last accepted event,
// if any, ends at a tick (D4). The tick is 0 if there is none.
func AcceptsLevel(at, channels int, e api.Event) bool {
	if !event.Valid(e) || e.Kind != api.EvLevel || e.Fault != api.FtNone || e.From == e.To || e.Value < 0 || e.Value >= 1<<channels {
		return false
	}
	// No accepted event ends at 0, since each has at least one tick.
	return at == 0 || e.From == at
}

// Levels returns the events of runs, beginning at tick 0.
func Levels(runs []api.Run) []api.Event {
	var l []api.Event
	begin := 0
	for _, r := range runs {
		end := begin + r.Ticks
		l = append(l, api.Event{Kind: api.EvLevel, From: begin, To: end, Value: r.Level})
		begin = end
	}
	return l
}

// Expect returns what decode returns for the levels that encode returns, or the error of encode (D9).
func Expect[C any](c C, l []api.Item, encode func(C, []api.Item) ([]api.Run, api.Errno), decode func(C, []api.Event) []api.Event) ([]api.Event, api.Errno) {
	runs, e := encode(c, l)
	if e != api.OK {
		return nil, e
	}
	return decode(c, Levels(runs)), api.OK
}

// Sender collects the runs of a sender of levels, adjacent ones of one level as one run.
type Sender struct {
	runs  []api.Run
	ticks int
}

// Send adds some ticks of a level, which may be none.
func (s *Sender) Send(level, ticks int) {
	if ticks == 0 {
		return
	}
	s.ticks += ticks
	last := len(s.runs) - 1
	if last >= 0 && s.runs[last].Level == level {
		s.runs[last].Ticks += ticks
	} else if last < api.MaxRuns {
		// One run too many is enough to know of the error; further ones would only need memory.
		s.runs = append(s.runs, api.Run{Level: level, Ticks: ticks})
	}
}

// Runs returns what was sent, or the error of too many runs or too many ticks (D9).
func (s *Sender) Runs() ([]api.Run, api.Errno) {
	if len(s.runs) > api.MaxRuns {
		return nil, api.ErrLimit
	}
	if s.ticks > api.MaxTime {
		return nil, api.ErrRange
	}
	return s.runs, api.OK
}
