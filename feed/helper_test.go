package feed_test

import (
	"fmt"
	"math"
	"math/rand"
	"slices"
	"strings"
	"testing"

	"signalbench/api"
)

const end = api.MaxTime

// letters has a name more than the greatest number of channels.
const letters = "a b c d e f g h i j k l m n o p q"

// runs returns runs of these levels and ticks, which alternate.
func runs(n ...int) []api.Run {
	var l []api.Run
	for i := 0; i < len(n); i += 2 {
		l = append(l, api.Run{Level: n[i], Ticks: n[i+1]})
	}
	return l
}

// repeated returns n runs of k ticks each whose levels are these, again and again.
func repeated(n, k int, levels ...int) []api.Run {
	var l []api.Run
	for i := range n {
		l = append(l, api.Run{Level: levels[i%len(levels)], Ticks: k})
	}
	return l
}

// channels returns the names of a number of channels.
func channels(count int) []string { return strings.Fields(letters)[:count] }

// of returns the capture with these names, which blanks separate, and these levels and ticks, which alternate.
func of(names string, n ...int) api.Capture {
	return api.Capture{Names: strings.Fields(names), Runs: runs(n...)}
}

// with returns the capture of a number of channels with these runs.
func with(count int, l []api.Run) api.Capture {
	return api.Capture{Names: channels(count), Runs: l}
}

// text returns the beginnings of the names and of the runs of a capture.
func text(c api.Capture) string { return fmt.Sprintf("%q %s", c.Names, brief(c.Runs)) }

// level returns a plain event.
func level(value, from, to int) api.Event {
	return api.Event{Kind: api.EvLevel, From: from, To: to, Value: value}
}

// events returns plain events of these values, beginnings and ends, which alternate.
func events(n ...int) []api.Event {
	var l []api.Event
	for i := 0; i < len(n); i += 3 {
		l = append(l, level(n[i], n[i+1], n[i+2]))
	}
	return l
}

// laid returns plain events with the levels and the ticks of these runs, one after the other from tick 0 on.
func laid(l []api.Run) []api.Event {
	var e []api.Event
	at := 0
	for _, r := range l {
		e = append(e, level(r.Level, at, at+r.Ticks))
		at += r.Ticks
	}
	return e
}

// marred returns the event in all the ways in which a plain one is no longer plain.
func marred(e api.Event) []api.Event {
	var l []api.Event
	for _, kind := range []int{math.MinInt, -1, 0, api.EvBit, api.EvByte, api.EvMark, api.EvFrame, api.EvPacket, api.EvCommand, api.EvPair, 9, math.MaxInt} {
		other := e
		other.Kind = kind
		l = append(l, other)
	}
	for _, aux := range []int{math.MinInt, -1, 1, 2, 1 << 53, math.MaxInt} {
		other := e
		other.Aux = aux
		l = append(l, other)
	}
	for _, data := range []string{"\x00", " ", "ab", strings.Repeat("x", api.MaxData+1)} {
		other := e
		other.Data = data
		l = append(l, other)
	}
	for _, fault := range []int{math.MinInt, -1, api.FtFraming, api.FtAborted, api.FtUnknown, 13, math.MaxInt} {
		other := e
		other.Fault = fault
		l = append(l, other)
	}
	return l
}

// small returns all plain events with these values and with times from 0 to most, and those of the kind EvBit.
func small(values, most int) []api.Event {
	var l []api.Event
	for value := range values {
		for from := range most + 1 {
			for to := range most + 1 {
				e := level(value, from, to)
				l = append(l, e)
				e.Kind = api.EvBit
				l = append(l, e)
			}
		}
	}
	return l
}

// lists returns all lists of up to n of these elements.
func lists[T any](n int, elements []T) [][]T {
	all := [][]T{nil}
	for begin := 0; n > 0; n-- {
		longest := all[begin:]
		begin = len(all)
		for _, l := range longest {
			for _, x := range elements {
				all = append(all, append(slices.Clone(l), x))
			}
		}
	}
	return all
}

// random returns a random valid capture of up to 16 channels and up to n runs, many of them with the level of the run before.
func random(r *rand.Rand, n int) api.Capture {
	count := 1 + r.Intn(api.MaxChannels)
	c := with(count, nil)
	r.Shuffle(count, func(i, j int) { c.Names[i], c.Names[j] = c.Names[j], c.Names[i] })
	level := r.Intn(1 << count)
	for range r.Intn(n + 1) {
		if r.Intn(2) == 0 {
			level = r.Intn(1 << count)
		}
		c.Runs = append(c.Runs, api.Run{Level: level, Ticks: 1 + r.Intn(7)})
	}
	return c
}

// brief returns the beginning and the length of a list as text.
func brief[T any](l []T) string { return fmt.Sprint(l[:min(len(l), 8)], " of ", len(l)) }

// equal reports an error unless the lists have the same elements.
func equal[T comparable](t *testing.T, what string, l, want []T) {
	t.Helper()
	if slices.Equal(l, want) {
		return
	}
	i := 0
	for i < len(l) && i < len(want) && l[i] == want[i] {
		i++
	}
	t.Errorf("%s: at %d %s, not %s", what, i, brief(l[i:]), brief(want[i:]))
}

// gives reports an error unless a call returned exactly this list.
func gives[T comparable](t *testing.T, what string, l []T, e api.Errno, want []T) {
	t.Helper()
	if e != api.OK {
		t.Errorf("%s: error %d", what, e)
	}
	equal(t, what, l, want)
}

// fails reports an error unless a call returned no elements and this error.
func fails[T any](t *testing.T, what string, l []T, e, want api.Errno) {
	t.Helper()
	if len(l) != 0 || e != want {
		t.Errorf("%s: %s %d, not error %d", what, brief(l), e, want)
	}
}
