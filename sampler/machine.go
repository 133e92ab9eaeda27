package sampler

import (
	"signalbench/api"
	"signalbench/decoder"
)

// channels is the number of channels that a sampler reads.
const channels = 1

// The phases of a state.
const (
	waiting   = iota // no event was accepted
	steady           // no change was irregular since the last bit, or since the beginning
	disturbed        // a change was
)

// machine is a decoder at work. In a state that does not wait, At is the end of the accepted events, From the anchor
// and Prev the last level. The number of the next bit is not kept, since it follows from At and From.
type machine struct {
	t api.Ratio
	s api.State
}

// step processes one event and returns the bits whose samples it contains.
func (m *machine) step(e api.Event) []api.Event {
	if !m.accepts(e) {
		return nil
	}
	if m.s.Phase == waiting {
		m.s.Phase, m.s.From = steady, e.From
	} else if e.Value != m.s.Prev {
		m.change(e.From)
	}
	m.s.At, m.s.Prev = e.To, e.Value
	return m.bits(e.From)
}

// accepts reports whether e is an event of a level that continues the accepted events.
func (m *machine) accepts(e api.Event) bool {
	// Every state of this package has its anchor within the accepted events. For another state, differences could overflow.
	return decoder.AcceptsLevel(m.s.At, channels, e) && 0 <= m.s.From && m.s.From <= m.s.At
}

// change makes a tick at which the level changes the anchor.
func (m *machine) change(at int) {
	if irregular(m.t, at-m.s.From) {
		m.s.Phase = disturbed
	}
	m.s.From = at
}

// bits returns the bits of the anchor whose samples lie from a tick on and before the end of the accepted events.
func (m *machine) bits(from int) []api.Event {
	var l []api.Event
	for k := samples(m.t, from-m.s.From); m.s.From+decoder.Sample(m.t, k) < m.s.At; k++ {
		l = append(l, m.bit(k))
		m.s.Phase = steady
	}
	return l
}

// bit returns the bit k of the anchor.
func (m *machine) bit(k int) api.Event {
	b := api.Event{
		Kind:  api.EvBit,
		From:  m.s.From + decoder.Boundary(m.t, k),
		To:    min(m.s.From+decoder.Boundary(m.t, k+1), api.MaxTime),
		Value: m.s.Prev,
	}
	if m.s.Phase == disturbed {
		b.Fault = api.FtTiming
	}
	return b
}
