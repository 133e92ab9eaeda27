package decoder_test

import (
	"slices"
	"testing"

	"signalbench/api"
	"signalbench/decoder"
	"signalbench/decodertest"
)

// D4
func TestAcceptsLevel(t *testing.T) {
	e := decodertest.Level(1, 5, 9)
	for _, x := range append(decodertest.AcceptedLevels(e), decodertest.Level(0, 5, 6), decodertest.Level(1, 5, api.MaxTime)) {
		if !decoder.AcceptsLevel(5, 1, x) || !decoder.AcceptsLevel(0, 1, x) {
			t.Errorf("%v is not accepted", x)
		}
	}
	for _, x := range decodertest.WrongLevels(e) {
		if decoder.AcceptsLevel(5, 1, x) || decoder.AcceptsLevel(0, 1, x) {
			t.Errorf("%v is accepted", x)
		}
	}
	for _, x := range decodertest.Misplaced(e) {
		if decoder.AcceptsLevel(5, 1, x) || !decoder.AcceptsLevel(0, 1, x) {
			t.Errorf("%v", x)
		}
	}
	for channels := 1; channels <= api.MaxChannels; channels++ {
		for value, want := range map[int]bool{-1: false, 0: true, 1<<channels - 1: true, 1 << channels: false, 1<<channels + 1: false} {
			if got := decoder.AcceptsLevel(5, channels, decodertest.Level(value, 5, 9)); got != want {
				t.Errorf("%d of %d channels: %v", value, channels, got)
			}
		}
	}
}

// D9
func TestLevels(t *testing.T) {
	got := decoder.Levels([]api.Run{{Level: 1, Ticks: 3}, {Level: 0, Ticks: 1}, {Level: 2, Ticks: 5}})
	if !slices.Equal(got, decodertest.Levels(0, 1, 3, 0, 1, 2, 5)) {
		t.Error(got)
	}
	if got := decoder.Levels(nil); len(got) > 0 {
		t.Error(got)
	}
}

// D9
func TestExpect(t *testing.T) {
	encode := func(c int, l []api.Item) ([]api.Run, api.Errno) {
		return []api.Run{{Level: len(l), Ticks: 3}}, api.Errno(c)
	}
	decode := func(c int, l []api.Event) []api.Event {
		return append(l, api.Event{Kind: c, From: 77})
	}
	got, e := decoder.Expect(0, make([]api.Item, 5), encode, decode)
	if want := append(decodertest.Levels(0, 5, 3), api.Event{From: 77}); !slices.Equal(got, want) || e != api.OK {
		t.Errorf("%v, error %d, not %v", got, e, want)
	}
	if got, e := decoder.Expect(4, nil, encode, decode); len(got) > 0 || e != 4 {
		t.Errorf("%v, error %d", got, e)
	}
}

// sent returns what a sender returns for levels and numbers of ticks, which alternate.
func sent(n ...int) ([]api.Run, api.Errno) {
	var s decoder.Sender
	for i := 0; i < len(n); i += 2 {
		s.Send(n[i], n[i+1])
	}
	return s.Runs()
}

// D9: the runs of a sender are clean.
func TestSender(t *testing.T) {
	for _, c := range []struct {
		n    []int
		want []api.Run
	}{
		{nil, nil},
		{[]int{1, 0, 0, 0}, nil},
		{[]int{1, 3}, []api.Run{{Level: 1, Ticks: 3}}},
		{[]int{1, 3, 1, 2, 0, 1, 0, 1, 1, 4}, []api.Run{{Level: 1, Ticks: 5}, {Level: 0, Ticks: 2}, {Level: 1, Ticks: 4}}},
		{[]int{1, 3, 0, 0, 1, 2}, []api.Run{{Level: 1, Ticks: 5}}},
		{[]int{0, 0, 3, 2, 1, 1}, []api.Run{{Level: 3, Ticks: 2}, {Level: 1, Ticks: 1}}},
		{[]int{1, api.MaxTime - 1, 0, 1}, []api.Run{{Level: 1, Ticks: api.MaxTime - 1}, {Level: 0, Ticks: 1}}},
	} {
		if got, e := sent(c.n...); !slices.Equal(got, c.want) || e != api.OK {
			t.Errorf("%v: %v, error %d", c.n, got, e)
		}
	}
}

// D9: the error of too many runs comes before that of too many ticks.
func TestSenderAtTheLimits(t *testing.T) {
	var full []int
	for i := range api.MaxRuns {
		full = append(full, i%2, 2)
	}
	if got, e := sent(full...); len(got) != api.MaxRuns || e != api.OK {
		t.Errorf("%d runs, error %d", len(got), e)
	}
	more := func(n ...int) []int { return slices.Concat(full, n) }
	if got, e := sent(more(1, 8)...); len(got) != api.MaxRuns || got[api.MaxRuns-1].Ticks != 10 || e != api.OK {
		t.Errorf("%d runs, error %d", len(got), e)
	}
	for _, c := range []struct {
		n    []int
		want api.Errno
	}{
		{more(0, 1), api.ErrLimit},
		{more(0, 1, 1, 1, 0, 1, 0, 1), api.ErrLimit},
		{more(0, api.MaxTime), api.ErrLimit},
		{more(1, api.MaxTime), api.ErrRange},
		{[]int{0, api.MaxTime, 0, 1}, api.ErrRange},
		{[]int{0, api.MaxTime, 1, 1}, api.ErrRange},
		{[]int{0, 1 << 50}, api.ErrRange},
	} {
		if got, e := sent(c.n...); len(got) > 0 || e != c.want {
			t.Errorf("%d runs, error %d, not %d", len(got), e, c.want)
		}
	}
}
