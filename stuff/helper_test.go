package stuff_test

import (
	"fmt"
	"math/rand"
	"slices"
	"strings"
	"testing"

	"signalbench/api"
	"signalbench/decodertest"
	"signalbench/stuff"
)

const end = api.MaxTime

// The least and the greatest valid Run.
const (
	least = 2
	most  = 16
)

// functions are those of the decoder.
var functions = decodertest.Decoder[api.Stuff]{Start: stuff.Start, Step: stuff.Step, End: stuff.End}

var (
	bits  = decodertest.Bits
	items = decodertest.Items
)

// ones returns the configuration that breaks runs of ones.
func ones(run int) api.Stuff { return api.Stuff{Run: run, Ones: true} }

// equal returns the configuration that breaks runs of equal bits.
func equal(run int) api.Stuff { return api.Stuff{Run: run} }

// configurations returns those with a Run up to some number.
func configurations(run int) []api.Stuff {
	var l []api.Stuff
	for n := least; n <= run; n++ {
		l = append(l, ones(n), equal(n))
	}
	return l
}

// bit returns an event of a bit.
func bit(value, from, to, aux, fault int) api.Event {
	return api.Event{Kind: api.EvBit, From: from, To: to, Value: value, Aux: aux, Fault: fault}
}

// drawn returns an event for each character of a text: 0 and 1 for bits, a and b for the same bits with the fault FtTiming, and
// x and y with the fault FtStuff. A point stands for an event that is not there.
func drawn(text string, at int) []api.Event {
	var l []api.Event
	for i, c := range text {
		kind := strings.IndexRune("01abxy", c)
		e := bit(kind%2, at+4*i, at+4*i+4, 0, []int{api.FtNone, api.FtTiming, api.FtStuff}[max(kind, 0)/2])
		if kind >= 0 {
			l = append(l, e)
		}
	}
	return l
}

// row holds the counted bits, as far as they matter: none that stand before the last stuff bit.
type row string

// add returns the row with one more bit.
func (r row) add(b byte) row {
	// The bits before the last few cannot belong to a run that is not complete.
	return r[max(0, len(r)-most):] + row(b)
}

// full reports whether the row ends with as many equal bits, or ones, as make a stuff bit due.
func (r row) full(c api.Stuff) bool {
	zeros, all := strings.Repeat("0", c.Run), strings.Repeat("1", c.Run)
	return strings.HasSuffix(string(r), all) || !c.Ones && strings.HasSuffix(string(r), zeros)
}

// last returns the last bit of the row, which has one.
func (r row) last() byte { return r[len(r)-1] }

// opposite returns the other bit.
func opposite(b byte) byte { return b ^ 1 }

// decoded returns what accepted events are decoded as, from the definitions.
func decoded(c api.Stuff, l []api.Event) []api.Event {
	var all []api.Event
	var r row
	for _, e := range l {
		b := byte('0' + e.Value)
		switch {
		case e.Fault != api.FtNone:
			r = ""
		case r.full(c) && b == opposite(r.last()):
			r = row(b)
			continue
		case r.full(c):
			r, e.Fault = "", api.FtStuff
		default:
			r = r.add(b)
		}
		e.Data = ""
		all = append(all, e)
	}
	return all
}

// encoded returns what items are encoded as, from the definitions.
func encoded(c api.Stuff, l []api.Item) []api.Item {
	var all []api.Item
	var r row
	for _, item := range l {
		var data strings.Builder
		wrong := item.Fault == api.FtStuff
		for i := range len(item.Data) {
			data.WriteByte(item.Data[i])
			r = r.add(item.Data[i])
			switch {
			case r.full(c) && wrong:
				data.WriteByte(r.last())
				r, wrong = "", false
			case r.full(c):
				r = row(opposite(r.last()))
				data.WriteString(string(r))
			}
		}
		all = append(all, api.Item{Gap: item.Gap, Data: data.String()})
	}
	return all
}

// decodes reports an error unless Decode returns these events, and Step the same, one after the other.
func decodes(t *testing.T, c api.Stuff, l, want []api.Event) {
	t.Helper()
	if got := stuff.Decode(c, l); !slices.Equal(got, want) {
		t.Errorf("%v %s: %s, not %s", c, brief(l), brief(got), brief(want))
	}
	all := functions.Steps(c, l)
	if got := slices.Concat(all[:len(l)]...); len(all[len(l)]) > 0 || !slices.Equal(got, want) {
		t.Errorf("%v %s: steps %s, end %v, not %s", c, brief(l), brief(got), all[len(l)], brief(want))
	}
}

// follows reports an error unless accepted events are decoded as in the model.
func follows(t *testing.T, c api.Stuff, l []api.Event) {
	t.Helper()
	decodes(t, c, l, decoded(c, l))
}

// encodes reports an error unless Encode returns these items.
func encodes(t *testing.T, c api.Stuff, l, want []api.Item) {
	t.Helper()
	if got, e := stuff.Encode(c, l); !slices.Equal(got, want) || e != api.OK {
		t.Errorf("%v %s: %s, error %d, not %s", c, brief(l), brief(got), e, brief(want))
	}
}

// refuses reports an error unless Encode returns nothing but this error.
func refuses(t *testing.T, c api.Stuff, l []api.Item, want api.Errno) {
	t.Helper()
	if got, e := stuff.Encode(c, l); len(got) > 0 || e != want {
		t.Errorf("%v %s: %s, error %d, not %d", c, brief(l), brief(got), e, want)
	}
}

// runs returns random bits in which there are runs of each length up to somewhat more than the greatest Run.
func runs(r *rand.Rand, n int) string {
	var s strings.Builder
	for range n {
		s.WriteString(strings.Repeat(string('0'+rune(r.Intn(2))), 1+r.Intn(1+r.Intn(most+4))))
	}
	return s.String()
}

// random returns accepted events with random fields, of which few are faulty; some of them begin at the same tick, overlap or
// are empty.
func random(r *rand.Rand, n int) []api.Event {
	l := decodertest.RandomTimes(runs(r, n), r.Intn)
	for i := range l {
		if r.Intn(15) == 0 {
			l[i].Fault = r.Intn(api.FtUnknown + 1)
		}
	}
	return l
}

// brief returns the beginning and the length of a list as text.
func brief[T any](l []T) string {
	return fmt.Sprintf("%.300q of %d", fmt.Sprint(l[:min(len(l), 8)]), len(l))
}
