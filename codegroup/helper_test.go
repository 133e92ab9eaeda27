package codegroup_test

import (
	"fmt"
	"math/rand"
	"slices"
	"strings"
	"testing"

	"signalbench/api"
	"signalbench/codegroup"
	"signalbench/decodertest"
)

const end = api.MaxTime

// The delimiters.
const (
	j, k = "11000", "10001"
	t, r = "01101", "00111"
)

// functions are those of the decoder.
var functions = decodertest.Decoder[api.Group]{Start: codegroup.Start, Step: codegroup.Step, End: codegroup.End}

var (
	bit   = decodertest.Bit
	bits  = decodertest.Bits
	items = decodertest.Items
)

var (
	msb  = api.Group{Msb: true}
	lsb  = api.Group{}
	both = []api.Group{msb, lsb}
)

// groups are those of the definition.
var groups = strings.Fields("11110 01001 10100 10101 01010 01011 01110 01111 10010 10011 10110 10111 11010 11011 11100 11101")

// sent returns the groups of bytes.
func sent(c api.Group, data string) string {
	var s strings.Builder
	for i := range len(data) {
		high, low := groups[data[i]/16], groups[data[i]%16]
		if c.Msb {
			s.WriteString(high + low)
		} else {
			s.WriteString(low + high)
		}
	}
	return s.String()
}

// joined returns bits that are written with blanks.
func joined(s string) string { return strings.ReplaceAll(s, " ", "") }

// found returns an event of a byte.
func found(value, from, to int) api.Event {
	return api.Event{Kind: api.EvByte, From: from, To: to, Value: value}
}

// lost returns an event of a byte with a fault.
func lost(fault, from, to int) api.Event {
	return api.Event{Kind: api.EvByte, From: from, To: to, Fault: fault}
}

// values returns the bits of events.
func values(l []api.Event) string {
	var s strings.Builder
	for _, e := range l {
		s.WriteByte('0' + byte(e.Value))
	}
	return s.String()
}

// model returns what accepted events are decoded as, from the definitions: first what the steps emit, and then what the end does.
func model(c api.Group, l []api.Event) ([]api.Event, []api.Event) {
	var all []api.Event
	for {
		n := slices.IndexFunc(l, func(e api.Event) bool { return e.Fault != api.FtNone })
		if n < 0 {
			complete, rest := decoded(c, l)
			return append(all, complete...), aborted(rest, func() int { return l[len(l)-1].To })
		}
		complete, rest := decoded(c, l[:n])
		all = slices.Concat(all, complete, aborted(rest, func() int { return l[n].From }))
		l = l[n+1:]
	}
}

// aborted returns the event for the bits of a byte that is given up, if there are any, at a tick.
func aborted(l []api.Event, tick func() int) []api.Event {
	if len(l) == 0 {
		return nil
	}
	return []api.Event{lost(api.FtAborted, l[0].From, tick())}
}

// decoded returns what events without faults are decoded as, and the bits of the last byte if it is not complete.
func decoded(c api.Group, l []api.Event) ([]api.Event, []api.Event) {
	var all []api.Event
	for {
		begin := strings.Index(values(l), j+k)
		if begin < 0 {
			return all, nil
		}
		l = l[begin+10:]
		for searching := false; !searching; {
			n, events := oneByte(c, values(l[:min(10, len(l))]))
			if n < 0 {
				return all, l
			}
			searching = n == 5 || len(events) > 0 && events[0].Fault != api.FtNone
			for _, e := range events {
				e.From, e.To = l[0].From, l[n-1].To
				all = append(all, e)
			}
			l = l[n:]
		}
	}
}

// oneByte returns the number of bits of a byte, of which s contains ten bits unless there are fewer, and its event; -1 if it
// is not complete.
func oneByte(c api.Group, s string) (int, []api.Event) {
	if len(s) < 5 {
		return -1, nil
	}
	first := slices.Index(groups, s[:5])
	if s[:5] == t {
		return 5, nil
	}
	if first < 0 {
		return 5, []api.Event{lost(api.FtCode, 0, 0)}
	}
	if len(s) < 10 {
		return -1, nil
	}
	second := slices.Index(groups, s[5:])
	switch {
	case second < 0:
		return 10, []api.Event{lost(api.FtCode, 0, 0)}
	case c.Msb:
		return 10, []api.Event{found(16*first+second, 0, 0)}
	default:
		return 10, []api.Event{found(16*second+first, 0, 0)}
	}
}

// decodes reports an error unless Step emits some of these events and End the last ones, and Decode all of them.
func decodes(x *testing.T, c api.Group, l, want, last []api.Event) {
	x.Helper()
	both := slices.Concat(want, last)
	if got := codegroup.Decode(c, l); !slices.Equal(got, both) {
		x.Errorf("%v %s: %s, not %s", c, brief(l), brief(got), brief(both))
	}
	all := functions.Steps(c, l)
	if got := slices.Concat(all[:len(l)]...); !slices.Equal(got, want) || !slices.Equal(all[len(l)], last) {
		x.Errorf("%v %s: steps %s, end %v, not %s and %v", c, brief(l), brief(got), all[len(l)], brief(want), last)
	}
}

// follows reports an error unless accepted events are decoded as in the model.
func follows(x *testing.T, c api.Group, l []api.Event) {
	x.Helper()
	want, last := model(c, l)
	decodes(x, c, l, want, last)
}

// random returns the bits of a transmission with errors: delimiters, groups and other bits.
func random(r *rand.Rand, n int) string {
	var s strings.Builder
	for range n {
		switch r.Intn(8) {
		case 0:
			s.WriteString(j + k)
		case 1:
			s.WriteString(t)
		case 2:
			s.WriteString(decodertest.Sequence(r.Int(), r.Intn(6)))
		default:
			s.WriteString(groups[r.Intn(16)])
		}
	}
	return s.String()
}

// brief returns the beginning and the length of a list as text.
func brief[T any](l []T) string {
	return fmt.Sprintf("%.300q of %d", fmt.Sprint(l[:min(len(l), 8)]), len(l))
}
