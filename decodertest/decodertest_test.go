package decodertest_test

import (
	"math/big"
	"math/rand"
	"slices"
	"testing"

	"signalbench/api"
	"signalbench/decodertest"
	"signalbench/event"
	"signalbench/ratio"
)

// exact returns the greatest integer that is not greater than n * t / d.
func exact(t api.Ratio, n, d int) int {
	product := new(big.Int).Mul(big.NewInt(int64(n)), big.NewInt(int64(t.Num)))
	return int(product.Div(product, new(big.Int).Mul(big.NewInt(int64(d)), big.NewInt(int64(t.Den)))).Int64())
}

func TestTimes(t *testing.T) {
	r := rand.New(rand.NewSource(1))
	for _, x := range decodertest.BitTimes() {
		for range 1000 {
			n, d := r.Intn(1<<r.Intn(41)), 1+r.Intn(4)
			if got := decodertest.Times(x, n, d); got != exact(x, n, d) {
				t.Errorf("%d * %v / %d: %d", n, x, d, got)
			}
		}
	}
}

func TestBitTimes(t *testing.T) {
	for _, x := range decodertest.BitTimes() {
		if !ratio.Valid(x) {
			t.Error(x)
		}
	}
	for x, e := range decodertest.WrongBitTimes() {
		if ratio.Valid(x) != (e == api.ErrRange) {
			t.Error(x, e)
		}
	}
}

func TestInvalidEvents(t *testing.T) {
	e := api.Event{Kind: api.EvBit, From: 5, To: 9, Value: 1}
	for _, x := range decodertest.Invalid(e) {
		if event.Valid(x) {
			t.Error(x)
		}
	}
	for _, x := range slices.Concat(decodertest.OtherKinds(e), decodertest.Faulty(e), decodertest.OtherData(e)) {
		if !event.Valid(x) {
			t.Error(x)
		}
	}
}

func TestCut(t *testing.T) {
	l := decodertest.Drawn(0b1100, 4)
	for mask, want := range [][]api.Event{
		decodertest.Levels(0, 0, 2, 1, 2), decodertest.Levels(0, 0, 1, 0, 1, 1, 2), decodertest.Levels(0, 0, 2, 1, 2), decodertest.Levels(0, 0, 1, 0, 1, 1, 2),
		decodertest.Levels(0, 0, 2, 1, 1, 1, 1), l,
	} {
		if got := decodertest.Cut(l, mask); !slices.Equal(got, want) {
			t.Errorf("%d: %v", mask, got)
		}
	}
	if got := decodertest.Shifted(l, 7); !slices.Equal(got, decodertest.Levels(7, 0, 1, 0, 1, 1, 1, 1, 1)) {
		t.Error(got)
	}
}
