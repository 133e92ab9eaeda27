package sampler_test

import (
	"slices"
	"testing"

	"signalbench/api"
	"signalbench/decodertest"
	"signalbench/sampler"
)

// R2, R3: the arguments stay as they are, also behind their ends, results are new memory, and a call returns the same again.
func TestMemory(t *testing.T) {
	c := clock(8, 1)
	events, items := levels(0, 1, 12, 0, 8, 1, 20, 0, 40), of("1", "011", "00", "1")
	all, read := slices.Clone(events), slices.Clone(items)
	for n := range events {
		bits, _ := sampler.Expect(c, items[:n])
		runs, _ := sampler.Encode(c, items[:n])
		wanted := slices.Clone(bits)
		first := slices.Clone(runs)
		for range 3 {
			decoded := sampler.Decode(c, events[:n])
			if !slices.Equal(decoded, within(model(c, all[:n]))) || !slices.Equal(bits, wanted) || !slices.Equal(runs, first) {
				t.Errorf("%d: %v %v %v", n, decoded, bits, runs)
			}
			_, step := sampler.Step(c, functions.After(c, events[:n]), events[n])
			decodertest.Spoil(step, bit(9, 9, 9, 9))
			decodertest.Spoil(decoded, bit(9, 9, 9, 9))
			decodertest.Spoil(bits, bit(9, 9, 9, 9))
			decodertest.Spoil(runs, api.Run{Level: 9, Ticks: 9})
			if !slices.Equal(events, all) || !slices.Equal(items, read) {
				t.Fatalf("%d: %v %v", n, events, items)
			}
			bits, _ = sampler.Expect(c, items[:n])
			runs, _ = sampler.Encode(c, items[:n])
		}
	}
}

// R2: lists that are nil and lists that are empty are the same.
func TestNilAndEmptyLists(t *testing.T) {
	for _, c := range clocks() {
		for _, l := range [][]api.Event{nil, {}} {
			decodes(t, c, l, nil)
		}
		for _, l := range [][]api.Item{nil, {}} {
			encodes(t, c, l, "")
		}
	}
}
