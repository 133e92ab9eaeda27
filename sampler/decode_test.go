package sampler_test

import (
	"math/rand"
	"testing"

	"signalbench/api"
	"signalbench/feed"
	"signalbench/sampler"
)

// P15.2
func TestDecode(t *testing.T) {
	const no, late = api.FtNone, api.FtTiming
	four, eight := clock(4, 1), clock(8, 1)
	decodes(t, four, levels(0, 1, 8, 0, 4), []api.Event{bit(1, 0, 4, no), bit(1, 4, 8, no), bit(0, 8, 12, no)})
	decodes(t, eight, levels(0, 1, 12, 0, 8), []api.Event{bit(1, 0, 8, no), bit(0, 12, 20, late)})
	// A bit exists if its sample is part of the input, which need not contain the rest of the bit.
	decodes(t, four, levels(0, 1, 2), nil)
	decodes(t, four, levels(0, 1, 3), []api.Event{bit(1, 0, 4, no)})
	decodes(t, four, levels(0, 1, 6), []api.Event{bit(1, 0, 4, no)})
	decodes(t, four, levels(0, 1, 7), []api.Event{bit(1, 0, 4, no), bit(1, 4, 8, no)})
	// The first anchor is where the input begins, even if the level is 0.
	decodes(t, four, levels(7, 0, 6, 1, 3), []api.Event{bit(0, 7, 11, no), bit(1, 13, 17, late)})
	decodes(t, four, levels(7, 0, 5, 1, 3), []api.Event{bit(0, 7, 11, no), bit(1, 12, 16, no)})
	// With T = 9/2 the boundaries are 0, 4, 9, 13 and 18, and the samples 2, 6, 11 and 15.
	decodes(t, clock(9, 2), levels(0, 1, 16), []api.Event{bit(1, 0, 4, no), bit(1, 4, 9, no), bit(1, 9, 13, no), bit(1, 13, 18, no)})
	decodes(t, clock(9, 2), levels(0, 1, 15), []api.Event{bit(1, 0, 4, no), bit(1, 4, 9, no), bit(1, 9, 13, no)})
	decodes(t, clock(9, 2), levels(100, 0, 12), []api.Event{bit(0, 100, 104, no), bit(0, 104, 109, no), bit(0, 109, 113, no)})
	decodes(t, four, nil, nil)
}

// P15.2: a change is irregular if it is more than a quarter of a bit away from the nearest boundary.
func TestIrregularChanges(t *testing.T) {
	const no, late = api.FtNone, api.FtTiming
	eight := clock(8, 1)
	for ticks, fault := range map[int]int{5: late, 6: no, 7: no, 8: no, 9: no, 10: no, 11: late, 12: late} {
		decodes(t, eight, levels(0, 1, ticks, 0, 5), []api.Event{bit(1, 0, 8, no), bit(0, ticks, ticks+8, fault)})
	}
	// So a short pulse is not, unless it is longer than that.
	decodes(t, eight, levels(0, 1, 2, 0, 5), []api.Event{bit(0, 2, 10, no)})
	decodes(t, eight, levels(0, 1, 3, 0, 5), []api.Event{bit(0, 3, 11, late)})
	decodes(t, eight, levels(0, 1, 8, 0, 2, 1, 5), []api.Event{bit(1, 0, 8, no), bit(1, 10, 18, no)})
	decodes(t, eight, levels(0, 1, 8, 0, 3, 1, 5), []api.Event{bit(1, 0, 8, no), bit(1, 11, 19, late)})
	// The fault is that of the next bit alone, however many changes there are before it.
	decodes(t, eight, levels(0, 1, 12, 0, 16), []api.Event{bit(1, 0, 8, no), bit(0, 12, 20, late), bit(0, 20, 28, no)})
	decodes(t, eight, levels(0, 1, 12, 0, 1, 1, 1, 0, 5, 1, 8), []api.Event{bit(1, 0, 8, no), bit(0, 14, 22, late), bit(1, 19, 27, late)})
	decodes(t, eight, levels(0, 1, 12, 0, 1, 1, 2, 0, 8, 1, 8), []api.Event{bit(1, 0, 8, no), bit(0, 15, 23, late), bit(1, 23, 31, no)})
	decodes(t, eight, levels(0, 1, 4, 0, 4, 1, 4, 0, 2, 1, 16), []api.Event{bit(1, 14, 22, late), bit(1, 22, 30, no)})
	// With T = 5 a quarter is 5/4, and with T = 13/3 it is 13/12; the boundaries of this are 0, 4, 8 and 13.
	decodes(t, clock(5, 1), levels(0, 1, 6, 0, 3), []api.Event{bit(1, 0, 5, no), bit(0, 6, 11, no)})
	decodes(t, clock(5, 1), levels(0, 1, 7, 0, 3), []api.Event{bit(1, 0, 5, no), bit(0, 7, 12, late)})
	decodes(t, clock(13, 3), levels(0, 1, 10, 0, 3), []api.Event{bit(1, 0, 4, no), bit(1, 4, 8, no), bit(0, 10, 14, late)})
	decodes(t, clock(13, 3), levels(0, 1, 12, 0, 3), []api.Event{bit(1, 0, 4, no), bit(1, 4, 8, no), bit(1, 8, 13, no), bit(0, 12, 16, no)})
}

// P15.2, P15.5: all levels of up to 12 ticks, tick by tick and joined.
func TestShortInputs(t *testing.T) {
	for _, c := range clocks()[:8] {
		for n := range 13 {
			for number := range 1 << n {
				steps(t, c, drawn(number, n))
				steps(t, c, cut(drawn(number, n), 0))
			}
		}
	}
}

// P15.5: all levels of 8 ticks in all divisions into events.
func TestAllDivisions(t *testing.T) {
	for _, c := range clocks()[:3] {
		for number := range 1 << 8 {
			l := drawn(number, 8)
			want := within(model(c, l))
			for mask := range 1 << 7 {
				decodes(t, c, cut(l, mask), want)
			}
		}
	}
}

// P15.2
func TestRandomInputs(t *testing.T) {
	r := rand.New(rand.NewSource(152))
	for _, c := range clocks() {
		for range 200 {
			steps(t, c, random(r, c, r.Intn(1<<r.Intn(39)), r.Intn(40)))
		}
	}
}

// P15.5
func TestDividedEvents(t *testing.T) {
	r := rand.New(rand.NewSource(155))
	for _, c := range clocks() {
		for range 20 {
			l := random(r, c, r.Intn(1000), 10)
			want := sampler.Decode(c, l)
			last := l[len(l)-1].To
			ticks := []int{l[0].From + 1, last - 1, l[0].From + times(c, 1, 2), l[0].From + times(c, 1, 2) + 1}
			for range 10 {
				at := l[0].From + r.Intn(last-l[0].From)
				ticks = append(ticks, at)
				decodes(t, c, feed.Split(l, []int{at}), want)
			}
			steps(t, c, feed.Split(l, ticks))
			decodes(t, c, feed.Merge(l), want)
		}
	}
}

// P15.2: times and bit times at their limits. A bit ends at MaxTime at the latest.
func TestDecodeAtTheLimits(t *testing.T) {
	const no, most = api.FtNone, 1 << 20
	four, slow := clock(4, 1), clock(most, 1)
	decodes(t, four, levels(end-2, 1, 2), nil)
	decodes(t, four, levels(end-3, 1, 3), []api.Event{bit(1, end-3, end, no)})
	decodes(t, four, levels(end-4, 1, 4), []api.Event{bit(1, end-4, end, no)})
	decodes(t, four, levels(end-5, 1, 5), []api.Event{bit(1, end-5, end-1, no)})
	decodes(t, four, levels(end-7, 0, 4, 1, 3), []api.Event{bit(0, end-7, end-3, no), bit(1, end-3, end, no)})
	decodes(t, slow, levels(end-most/2, 1, most/2), nil)
	decodes(t, slow, levels(end-most/2-1, 1, most/2+1), []api.Event{bit(1, end-most/2-1, end, no)})
	decodes(t, slow, levels(0, 0, 3*most/2+1), []api.Event{bit(0, 0, most, no), bit(0, most, 2*most, no)})
	decodes(t, slow, levels(0, 0, 5*most/4, 1, most), []api.Event{bit(0, 0, most, no), bit(1, 5*most/4, 9*most/4, no)})
	decodes(t, slow, levels(0, 0, 5*most/4+1, 1, most), []api.Event{bit(0, 0, most, no), bit(1, 5*most/4+1, 9*most/4+1, api.FtTiming)})
	for _, c := range clocks() {
		for _, ticks := range []int{1, times(c, 1, 2), times(c, 1, 2) + 1, times(c, 3, 4), times(c, 1, 1), times(c, 3, 2) + 1, times(c, 50, 1)} {
			steps(t, c, levels(end-ticks, 1, ticks))
			steps(t, c, levels(end-2*ticks, 1, ticks, 0, ticks))
		}
	}
}

// P15.2: one event of all ticks, and as many changes as possible.
func TestLongInputs(t *testing.T) {
	for _, c := range []api.Clock{clock(1<<20, 1), clock(1<<30, 1025)} {
		steps(t, c, levels(0, 1, end)[:1])
	}
	var l []api.Event
	for i := range api.MaxRuns {
		l = append(l, level(i%2, 4*i, 4*i+4))
	}
	var want []api.Event
	for i := range api.MaxRuns {
		want = append(want, bit(i%2, 4*i, 4*i+4, api.FtNone))
	}
	decodes(t, clock(4, 1), l, want)
}
