package sampler_test

import (
	"fmt"
	"math/big"
	"math/rand"
	"slices"
	"testing"

	"signalbench/api"
	"signalbench/decodertest"
	"signalbench/sampler"
)

const end = api.MaxTime

// functions are those of the decoder.
var functions = decodertest.Decoder[api.Clock]{Start: sampler.Start, Step: sampler.Step, End: sampler.End}

var (
	level  = decodertest.Level
	levels = decodertest.Levels
	drawn  = decodertest.Drawn
	cut    = decodertest.Cut
)

// clock returns the clock with this bit time.
func clock(num, den int) api.Clock { return api.Clock{T: api.Ratio{Num: num, Den: den}} }

// clocks returns valid clocks.
func clocks() []api.Clock {
	var l []api.Clock
	for _, t := range decodertest.BitTimes() {
		l = append(l, api.Clock{T: t})
	}
	return l
}

// times returns the greatest integer that is not greater than n * T / d.
func times(c api.Clock, n, d int) int { return decodertest.Times(c.T, n, d) }

// bit returns an event of a bit.
func bit(value, from, to, fault int) api.Event {
	return api.Event{Kind: api.EvBit, From: from, To: to, Value: value, Fault: fault}
}

// far reports whether a distance is greater than T / 4.
func far(c api.Clock, distance int) bool {
	return big.NewRat(4*int64(distance), 1).Cmp(big.NewRat(int64(c.T.Num), int64(c.T.Den))) > 0
}

// stray reports whether a tick is far from every boundary of an anchor.
func stray(c api.Clock, anchor, tick int) bool {
	for k := 0; ; k++ {
		b := anchor + times(c, k, 1)
		if !far(c, max(tick-b, b-tick)) {
			return false
		}
		if b > tick {
			return true
		}
	}
}

// sampled is a bit and the tick that determines it.
type sampled struct {
	at  int
	bit api.Event
}

// model returns the bits of events of levels that follow one another, from the definitions.
func model(c api.Clock, l []api.Event) []sampled {
	l = cut(l, 0)
	var all []sampled
	irregular := -1
	for i, e := range l {
		if i > 0 && stray(c, l[i-1].From, e.From) {
			irregular = e.From
		}
		for k := 0; ; k++ {
			at := e.From + times(c, 2*k+1, 2)
			if at >= e.To {
				break
			}
			b := bit(e.Value, e.From+times(c, k, 1), min(e.From+times(c, k+1, 1), end), api.FtNone)
			if irregular >= 0 && (len(all) == 0 || irregular > all[len(all)-1].at) {
				b.Fault = api.FtTiming
			}
			all = append(all, sampled{at, b})
		}
	}
	return all
}

// part returns the bits that are determined within an event.
func part(all []sampled, e api.Event) []api.Event {
	var l []api.Event
	for _, s := range all {
		if e.From <= s.at && s.at < e.To {
			l = append(l, s.bit)
		}
	}
	return l
}

// within returns all these bits.
func within(all []sampled) []api.Event {
	return part(all, level(0, 0, end))
}

// decodes reports an error unless Decode returns these bits.
func decodes(t *testing.T, c api.Clock, l, want []api.Event) {
	t.Helper()
	if got := sampler.Decode(c, l); !slices.Equal(got, want) {
		t.Errorf("%v %s: %s, not %s", c.T, brief(l), brief(got), brief(want))
	}
}

// steps reports an error unless each Step for events of levels that follow one another returns the bits that it determines, End none, and Decode all of them.
func steps(t *testing.T, c api.Clock, l []api.Event) {
	t.Helper()
	all := model(c, l)
	for i, got := range functions.Steps(c, l) {
		var want []api.Event
		if i < len(l) {
			want = part(all, l[i])
		}
		if !slices.Equal(got, want) {
			t.Errorf("%v %s: step %d: %s, not %s", c.T, brief(l), i, brief(got), brief(want))
		}
	}
	decodes(t, c, l, within(all))
}

// random returns events of levels from a tick on, most of which change the level near a boundary.
func random(r *rand.Rand, c api.Clock, at, n int) []api.Event {
	var l []api.Event
	value := r.Intn(2)
	whole := times(c, 1, 1)
	for range n {
		ticks := times(c, r.Intn(5), 1)
		switch r.Intn(4) {
		case 0:
			ticks += whole/4 - 1 + r.Intn(3)
		case 1:
			ticks -= whole/4 - 1 + r.Intn(3)
		case 2:
			ticks += r.Intn(whole)
		}
		ticks = max(ticks, 1)
		l = append(l, level(value, at, at+ticks))
		at += ticks
		if r.Intn(4) > 0 {
			value = 1 - value
		}
	}
	return l
}

// brief returns the beginning and the length of a list as text.
func brief[T any](l []T) string {
	return fmt.Sprintf("%.300q of %d", fmt.Sprint(l[:min(len(l), 8)]), len(l))
}
