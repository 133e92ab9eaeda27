package nrzi_test

import (
	"fmt"
	"math/rand"
	"slices"
	"strings"
	"testing"

	"signalbench/api"
	"signalbench/decodertest"
	"signalbench/nrzi"
)

const end = api.MaxTime

// functions are those of the decoder.
var functions = decodertest.Decoder[api.Nrzi]{Start: nrzi.Start, Step: nrzi.Step, End: nrzi.End}

var (
	bits  = decodertest.Bits
	items = decodertest.Items
)

var (
	one  = api.Nrzi{}
	zero = api.Nrzi{Zero: true}
	both = []api.Nrzi{one, zero}
)

// bit returns an event of a bit.
func bit(value, from, to, aux, fault int) api.Event {
	return api.Event{Kind: api.EvBit, From: from, To: to, Value: value, Aux: aux, Fault: fault}
}

// model returns the decoded bits of s, from the definition.
func model(c api.Nrzi, s string) string {
	changed, same := "1", "0"
	if c.Zero {
		changed, same = same, changed
	}
	var l strings.Builder
	last := '1'
	for _, b := range s {
		if b == last {
			l.WriteString(same)
		} else {
			l.WriteString(changed)
		}
		last = b
	}
	return l.String()
}

// decoded returns what accepted events are decoded as, from the definitions.
func decoded(c api.Nrzi, l []api.Event) []api.Event {
	var s strings.Builder
	for _, e := range l {
		s.WriteByte('0' + byte(e.Value))
	}
	var all []api.Event
	for i, b := range model(c, s.String()) {
		all = append(all, bit(int(b-'0'), l[i].From, l[i].To, l[i].Aux, l[i].Fault))
	}
	return all
}

// decodes reports an error unless Decode returns these events, and Step and End the same, one after the other.
func decodes(t *testing.T, c api.Nrzi, l, want []api.Event) {
	t.Helper()
	if got := nrzi.Decode(c, l); !slices.Equal(got, want) {
		t.Errorf("%v %s: %s, not %s", c, brief(l), brief(got), brief(want))
	}
	all := functions.Steps(c, l)
	if got := slices.Concat(all[:len(l)]...); len(all[len(l)]) > 0 || !slices.Equal(got, want) {
		t.Errorf("%v %s: steps %s, end %v, not %s", c, brief(l), brief(got), all[len(l)], brief(want))
	}
}

// random returns accepted events with random fields; some of them begin at the same tick, overlap, are empty or faulty.
func random(r *rand.Rand, n int) []api.Event {
	l := decodertest.RandomTimes(decodertest.Sequence(r.Int(), n), r.Intn)
	for i := range l {
		if r.Intn(3) == 0 {
			l[i].Fault = r.Intn(api.FtUnknown + 1)
		}
	}
	return l
}

// brief returns the beginning and the length of a list as text.
func brief[T any](l []T) string {
	return fmt.Sprintf("%.300q of %d", fmt.Sprint(l[:min(len(l), 8)]), len(l))
}
