package manchester_test

import (
	"math/rand"
	"testing"

	"signalbench/api"
	"signalbench/feed"
	"signalbench/manchester"
)

// P17.2
func TestDecode(t *testing.T) {
	decodesSignal(t, 8, 1, levels(0, 0, 20, 1, 4, 0, 4, 1, 8, 0, 20), []api.Event{bit(1, 24, 28), bit(0, 32, 36)})
	decodesSignal(t, 8, 1, levels(0, 0, 20, 1, 4, 0, 4, 1, 12, 0, 16), []api.Event{bit(1, 24, 28), broken(32, 40)})
	// An edge in the middle of a bit determines it, whatever follows.
	decodesSignal(t, 8, 1, levels(0, 0, 20, 1, 4, 0, 4, 1, 8), []api.Event{bit(1, 24, 28)})
	decodesSignal(t, 8, 1, levels(0, 0, 20, 1, 4, 0, 4, 1, 8, 0, 1), []api.Event{bit(1, 24, 28), bit(0, 32, 36)})
	// The input may begin at any tick and within a bit. The signal before it is 0.
	decodesSignal(t, 8, 1, levels(7, 1, 8, 0, 1), []api.Event{bit(0, 11, 15)})
	decodesSignal(t, 8, 1, levels(0, 1, 8, 0, 1), []api.Event{bit(0, 4, 8)})
	decodesSignal(t, 8, 1, levels(7, 0, 8, 1, 8, 0, 1), []api.Event{bit(0, 19, 23)})
	decodesSignal(t, 8, 1, levels(7, 0, 1, 1, 8, 0, 1), []api.Event{bit(0, 12, 16)})
	decodesSignal(t, 8, 1, levels(7, 0, 100), nil)
	decodesSignal(t, 8, 1, levels(7, 1, 100), nil)
	decodesSignal(t, 8, 1, nil, nil)
}

// P17.2: an edge at each distance from the last middle, and the distances of the next edge after it.
func TestDistances(t *testing.T) {
	for _, c := range []struct{ num, den, middle, late, idle int }{
		// Three, five and eight quarters of a bit are 3, 5 and 8 ticks; 13/4, 65/12 and 26/3 ones; and so on.
		{4, 1, 3, 6, 8}, {13, 3, 4, 6, 9}, {9, 2, 4, 6, 9}, {5, 1, 4, 7, 10}, {16, 3, 4, 7, 11}, {8, 1, 6, 11, 16}, {100, 1, 75, 126, 200}, {1 << 20, 1, 3 << 18, 5<<18 + 1, 2 << 20},
	} {
		half := c.num / c.den / 2
		for _, d := range []int{2, c.middle - 1, c.middle, c.middle + 1, c.late - 1, c.late, c.idle - 1, c.idle, c.idle + 1, 2 * c.idle, 1 << 38} {
			var falling, rising []api.Event
			switch {
			case d >= c.late && d < c.idle:
				falling, rising = []api.Event{broken(50+half, 50+d)}, []api.Event{broken(50+half, 50+d)}
			case d >= c.middle && d < c.idle:
				falling, rising = []api.Event{bit(0, 50+half, 50+d)}, []api.Event{bit(1, 50+half, 50+d)}
			}
			decodesSignal(t, c.num, c.den, levels(0, 0, 50, 1, d, 0, 1), falling)
			// For a rising edge, there is a falling one at a boundary before it.
			decodesSignal(t, c.num, c.den, levels(0, 0, 50, 1, 1, 0, d-1, 1, 1), rising)
			// The next edge is that in the middle of a 0 after this one, unless this one is at a boundary.
			if d >= c.middle && d < c.idle {
				decodesSignal(t, c.num, c.den, levels(0, 0, 50, 1, 1, 0, d-1, 1, c.middle, 0, 1), append(rising, bit(0, 50+d+half, 50+d+c.middle)))
				decodesSignal(t, c.num, c.den, levels(0, 0, 50, 1, d, 0, c.middle, 1, 1), append(falling, bit(1, 50+d+half, 50+d+c.middle)))
			} else if d >= c.idle {
				decodesSignal(t, c.num, c.den, levels(0, 0, 50, 1, 1, 0, d-1, 1, c.middle, 0, 1), []api.Event{bit(0, 50+d+half, 50+d+c.middle)})
				decodesSignal(t, c.num, c.den, levels(0, 0, 50, 1, d, 0, c.middle, 1, 1), nil)
			} else {
				decodesSignal(t, c.num, c.den, levels(0, 0, 50, 1, d, 0, c.middle-d, 1, 1), []api.Event{bit(1, 50+half, 50+c.middle)})
			}
		}
	}
}

// P17.2: an idle decoder waits for a rising edge.
func TestIdle(t *testing.T) {
	// After 16 ticks without an edge, the falling edge has no effect, and the rising one is the middle of a start bit.
	decodesSignal(t, 8, 1, levels(0, 1, 16, 0, 8, 1, 8, 0, 8), []api.Event{bit(0, 28, 32)})
	decodesSignal(t, 8, 1, levels(0, 1, 15, 0, 8, 1, 8, 0, 8), []api.Event{broken(4, 15), bit(1, 19, 23), bit(0, 27, 31)})
	// Edges at boundaries do not move the last middle, so the decoder becomes idle although no level lasts for 16 ticks.
	decodesSignal(t, 8, 1, levels(0, 1, 5, 0, 11, 1, 4, 0, 4), []api.Event{})
	decodesSignal(t, 8, 1, levels(0, 1, 5, 0, 11, 1, 8, 0, 4), []api.Event{bit(0, 20, 24)})
	decodesSignal(t, 8, 1, levels(0, 1, 3, 0, 2, 1, 11, 0, 5, 1, 8, 0, 1), []api.Event{bit(0, 25, 29)})
	// Two transmissions with the bit 1 each.
	decodesSignal(t, 8, 1, levels(0, 0, 20, 1, 4, 0, 4, 1, 4, 0, 20, 1, 4, 0, 4, 1, 4, 0, 16), []api.Event{bit(1, 24, 28), bit(1, 56, 60)})
}

// P17.2, P17.5: all levels of up to 13 ticks, tick by tick and joined.
func TestShortInputs(t *testing.T) {
	for _, c := range codes()[:16] {
		for n := range 14 {
			for number := range 1 << n {
				l := drawn(number, n)
				if n < 12 {
					steps(t, c, l)
				}
				steps(t, c, cut(l, 0))
			}
		}
	}
}

// P17.5: all levels of 8 ticks in all divisions into events.
func TestAllDivisions(t *testing.T) {
	for _, c := range codes()[:6] {
		for number := range 1 << 8 {
			l := drawn(number, 8)
			want := model(c, l)
			for mask := range 1 << 7 {
				decodes(t, c, cut(l, mask), want)
			}
		}
	}
}

// P17.2
func TestRandomInputs(t *testing.T) {
	r := rand.New(rand.NewSource(172))
	for _, c := range codes() {
		for range 300 {
			steps(t, c, random(r, c, r.Intn(1<<r.Intn(39)), r.Intn(60)))
		}
	}
}

// P17.5
func TestDividedEvents(t *testing.T) {
	r := rand.New(rand.NewSource(175))
	for _, c := range codes() {
		for range 20 {
			l := random(r, c, r.Intn(1000), 20)
			want := manchester.Decode(c, l)
			last := l[len(l)-1].To
			ticks := []int{l[0].From + 1, last - 1}
			for range 10 {
				at := l[0].From + r.Intn(last-l[0].From)
				ticks = append(ticks, at)
				decodes(t, c, feed.Split(l, []int{at}), want)
			}
			steps(t, c, feed.Split(l, ticks))
			decodes(t, c, feed.Merge(l), want)
		}
	}
}

// P17.2: distances up to the greatest ones, with every bit time.
func TestFarEdges(t *testing.T) {
	r := rand.New(rand.NewSource(17))
	for _, c := range codes() {
		for bits := range 39 {
			for range 20 {
				d := 1<<bits + r.Intn(1<<bits)
				steps(t, c, channel(c, levels(r.Intn(100), 1, d, 0, times(c, 1, 1), 1, times(c, 1, 1), 0, times(c, 1, 1), 1, d/2+1)))
			}
		}
		steps(t, c, levels(0, 1, end-1, 0, 1))
		steps(t, c, levels(0, 0, end-1, 1, 1))
	}
}

// P17.2: times at their limits. A bit ends at the tick that determines it, so before MaxTime.
func TestDecodeAtTheLimits(t *testing.T) {
	decodesSignal(t, 8, 1, levels(end-9, 1, 8, 0, 1), []api.Event{bit(0, end-5, end-1)})
	decodesSignal(t, 8, 1, levels(end-16, 1, 15, 0, 1), []api.Event{broken(end-12, end-1)})
	decodesSignal(t, 8, 1, levels(end-17, 1, 16, 0, 1), nil)
	decodesSignal(t, 8, 1, levels(end-8, 1, 8), nil)
	decodesSignal(t, 1<<20, 1, levels(end-1<<20-1, 1, 1<<20, 0, 1), []api.Event{bit(0, end-1<<19-1, end-1)})
	decodesSignal(t, 1<<20, 1, levels(0, 1, 1<<21-1, 0, 1<<20), []api.Event{broken(1<<19, 1<<21-1)})
	decodesSignal(t, 1<<20, 1, levels(0, 1, 1<<21, 0, 1<<20), nil)
	for _, c := range codes() {
		ticks := times(c, 1, 1)
		steps(t, c, levels(end-3*ticks, 0, ticks, 1, ticks, 0, ticks))
		steps(t, c, levels(end-3*ticks, 1, ticks, 0, ticks, 1, ticks))
	}
	// As many changes as possible: the levels change in the middle of each bit.
	var l, want []api.Event
	for i := range api.MaxRuns {
		l = append(l, level(1-i%2, 4*i, 4*i+4))
		if i > 0 {
			want = append(want, bit(1-i%2, 4*i-2, 4*i))
		}
	}
	decodesSignal(t, 4, 1, l, want)
}
