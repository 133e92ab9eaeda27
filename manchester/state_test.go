package manchester_test

import (
	"math/rand"
	"slices"
	"testing"

	"signalbench/api"
	"signalbench/decodertest"
	"signalbench/manchester"
)

// D4: an ignored event changes nothing.
func TestIgnoredEvents(t *testing.T) {
	l := levels(5, 0, 11, 1, 4, 1, 4, 0, 3, 1, 9, 0, 30, 1, 3, 0, 5, 1, 4)
	for _, c := range []api.Manchester{ieee(8, 1), thomas(8, 1), ieee(23, 5)} {
		var mixed []api.Event
		s := manchester.Start(c)
		for i, e := range l {
			wrong := slices.Concat(decodertest.WrongLevels(e), decodertest.WrongLevels(level(1-e.Value, e.From, e.To)))
			if i > 0 {
				wrong = append(wrong, decodertest.Misplaced(e)...)
			}
			if got := functions.NotIgnored(c, s, wrong); len(got) > 0 {
				t.Errorf("%v: not ignored: %s", c, brief(got))
			}
			mixed = append(append(mixed, wrong...), e)
			s, _ = manchester.Step(c, s, e)
		}
		decodes(t, c, mixed, model(c, l))
		decodes(t, c, decodertest.WrongLevels(level(1, 5, 17)), nil)
	}
}

// D4: Aux and Data of an accepted event have no meaning.
func TestAcceptedEvents(t *testing.T) {
	c, l := ieee(8, 1), levels(5, 0, 11, 1, 8, 0, 3, 1, 8, 0, 8)
	want := model(c, l)
	for i, e := range l {
		for _, x := range decodertest.AcceptedLevels(e) {
			other := slices.Clone(l)
			other[i] = x
			decodes(t, c, other, want)
		}
	}
	// The first event may begin at any tick.
	for _, from := range []int{0, 1, 1000, end - 9} {
		decodes(t, c, levels(from, 1, 8, 0, 1), []api.Event{bit(0, from+4, from+8)})
	}
}

// D2, D3: Step continues from the state that it is given, as often as it is asked, and End emits nothing.
func TestStates(t *testing.T) {
	r := rand.New(rand.NewSource(17))
	for _, c := range codes() {
		l := random(r, c, 100, 20)
		for i := range l {
			s := functions.After(c, l[:i])
			want := part(model(c, l), l[i])
			for range 2 {
				next, bits := manchester.Step(c, s, l[i])
				if !slices.Equal(bits, want) || next != functions.After(c, l[:i+1]) {
					t.Errorf("%v %s: step %d: %v %s, not %s", c, brief(l), i, next, brief(bits), brief(want))
				}
				if bits := manchester.End(c, next); len(bits) > 0 {
					t.Errorf("%v %s: end %v", c, brief(l), bits)
				}
			}
		}
	}
}

// D3: there is no panic in other states.
func TestOtherStates(t *testing.T) {
	for _, c := range codes() {
		functions.OtherStates(c, decodertest.LevelsAfter)
	}
}

// R2, R3: the arguments stay as they are, also behind their ends, results are new memory, and a call returns the same again.
func TestMemory(t *testing.T) {
	for _, c := range []api.Manchester{ieee(8, 1), thomas(8, 1)} {
		events := channel(c, levels(0, 1, 8, 0, 8, 1, 15, 0, 3, 1, 9, 0, 10, 1, 30, 0, 2))
		items := []api.Item{{Data: "1"}, {Data: "011"}, faulty("0110", 2), {Data: "00", Gap: 7}, {}, {Data: "1"}, faulty("1", 0), {}}
		all, read := slices.Clone(events), slices.Clone(items)
		for n := range events {
			for range 3 {
				encodes(t, c, items[:n])
				runs, _ := manchester.Encode(c, items[:n])
				bits, _ := manchester.Expect(c, items[:n])
				decoded := manchester.Decode(c, events[:n])
				if !slices.Equal(decoded, model(c, all[:n])) {
					t.Errorf("%v %d: %v", c, n, decoded)
				}
				_, step := manchester.Step(c, functions.After(c, events[:n]), events[n])
				decodertest.Spoil(step, bit(9, 9, 9))
				decodertest.Spoil(decoded, bit(9, 9, 9))
				decodertest.Spoil(bits, bit(9, 9, 9))
				decodertest.Spoil(runs, api.Run{Level: 9, Ticks: 9})
				if !slices.Equal(events, all) || !slices.Equal(items, read) {
					t.Fatalf("%v %d: %v %v", c, n, events, items)
				}
			}
		}
	}
}

// R2: lists that are nil and lists that are empty are the same.
func TestNilAndEmptyLists(t *testing.T) {
	for _, c := range codes() {
		for _, l := range [][]api.Event{nil, {}} {
			decodes(t, c, l, nil)
		}
		for _, l := range [][]api.Item{nil, {}} {
			encodes(t, c, l)
		}
	}
}
