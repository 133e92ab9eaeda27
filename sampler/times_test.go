package sampler

import (
	"math/big"
	"math/rand"
	"slices"
	"testing"

	"signalbench/api"
	"signalbench/decodertest"
)

// farClocks returns bit times whose products with far ticks do not fit into 64 bits, and others.
func farClocks() []api.Ratio {
	return []api.Ratio{
		{Num: 4, Den: 1}, {Num: 9, Den: 2}, {Num: 1 << 30, Den: 1<<28 - 1}, {Num: 1<<30 - 3, Den: 1<<28 - 1}, {Num: 1<<30 - 1, Den: 1 << 27},
		{Num: 1<<30 - 1, Den: 1 << 20}, {Num: 434, Den: 5}, {Num: 1 << 30, Den: 1025}, {Num: 1 << 20, Den: 1},
	}
}

// placed returns the number of samples before a tick, counted from a number that is not too great, and whether every boundary is far from it.
func placed(t api.Ratio, tick int) (int, bool) {
	whole := new(big.Int).Mul(big.NewInt(int64(tick)), big.NewInt(int64(t.Den)))
	k := max(0, int(whole.Div(whole, big.NewInt(int64(t.Num))).Int64())-2)
	quarter := big.NewRat(int64(t.Num), 4*int64(t.Den))
	stray := true
	for i := k; i < k+5; i++ {
		b := decodertest.Times(t, i, 1)
		stray = stray && big.NewRat(int64(max(tick-b, b-tick)), 1).Cmp(quarter) > 0
	}
	for decodertest.Times(t, 2*k+1, 2) < tick {
		k++
	}
	return k, stray
}

// P15.2: samples and changes far from their anchor, which only long inputs with many bits lead to.
func TestFarTimes(t *testing.T) {
	r := rand.New(rand.NewSource(1))
	for _, c := range farClocks() {
		for range 3000 {
			tick := r.Intn(1 << (1 + r.Intn(40)))
			if r.Intn(3) == 0 {
				tick = api.MaxTime - r.Intn(100)
			}
			k, stray := placed(c, tick)
			if n := samples(c, tick); n != k {
				t.Errorf("%v at %d: %d samples, not %d", c, tick, n, k)
			}
			if irregular(c, tick) != stray {
				t.Errorf("%v at %d: irregular is %v", c, tick, !stray)
			}
		}
	}
}

// P15.2: the bits of a level that has lasted for a long time.
func TestBitsFarFromTheirAnchor(t *testing.T) {
	for _, c := range farClocks() {
		for _, at := range []int{1 << 33, 1<<36 + 5, 1<<39 + 77, api.MaxTime - 200<<20} {
			s := api.State{Phase: steady, At: at, From: 3, Prev: 1}
			to := at + decodertest.Times(c, 199, 1)
			_, got := Step(api.Clock{T: c}, s, api.Event{Kind: api.EvLevel, From: at, To: to, Value: 1})
			var want []api.Event
			for k, _ := placed(c, at-3); 3+decodertest.Times(c, 2*k+1, 2) < to; k++ {
				want = append(want, api.Event{Kind: api.EvBit, From: 3 + decodertest.Times(c, k, 1), To: 3 + decodertest.Times(c, k+1, 1), Value: 1})
			}
			if !slices.Equal(got, want) || len(got) < 198 {
				t.Errorf("%v at %d: %d bits, not %d", c, at, len(got), len(want))
			}
		}
	}
}
