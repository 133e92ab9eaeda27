package decoder_test

import (
	"math/rand"
	"testing"

	"signalbench/api"
	"signalbench/decoder"
	"signalbench/decodertest"
)

func TestCheckBitTime(t *testing.T) {
	right := append(decodertest.BitTimes(), []api.Ratio{
		{Num: 4*(1<<28-1) + 1, Den: 1<<28 - 1}, {Num: 1023<<20 - 1, Den: 1023}, {Num: 1<<20 - 1, Den: 1}, {Num: 2<<20 - 1, Den: 2}, {Num: 17, Den: 4}, {Num: 1 << 19, Den: 1},
	}...)
	for _, x := range right {
		if e := decoder.CheckBitTime(x); e != api.OK {
			t.Errorf("%v: error %d", x, e)
		}
	}
	for x, want := range decodertest.WrongBitTimes() {
		if e := decoder.CheckBitTime(x); e != want {
			t.Errorf("%v: error %d, not %d", x, e, want)
		}
	}
}

// The boundaries and the samples of DOC.md's definitions.
func TestBoundariesAndSamples(t *testing.T) {
	for k, want := range []int{0, 4, 9, 13, 18} {
		if got := decoder.Boundary(api.Ratio{Num: 9, Den: 2}, k); got != want {
			t.Errorf("boundary %d: %d, not %d", k, got, want)
		}
	}
	for k, want := range []int{2, 6, 11, 15, 20} {
		if got := decoder.Sample(api.Ratio{Num: 9, Den: 2}, k); got != want {
			t.Errorf("sample %d: %d, not %d", k, got, want)
		}
	}
	r := rand.New(rand.NewSource(1))
	for _, x := range decodertest.BitTimes() {
		for range 3000 {
			k := r.Intn(1 << r.Intn(39))
			if decodertest.Times(x, k, 1) > 2*api.MaxTime {
				continue
			}
			if b, s := decoder.Boundary(x, k), decoder.Sample(x, k); b != decodertest.Times(x, k, 1) || s != decodertest.Times(x, 2*k+1, 2) {
				t.Errorf("%v: boundary %d and sample %d of bit %d", x, b, s, k)
			}
		}
	}
}
