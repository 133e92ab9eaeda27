package manchester

import (
	"signalbench/api"
	"signalbench/bits"
	"signalbench/decoder"
	"signalbench/wave"
)

// What a transmission consists of, besides the bits of its item.
const (
	start  = "1"
	broken = "x" // a bit without an edge in its middle
)

// idleBits is the number of bit times before the first item and after each one.
const idleBits = 2

// checkItem returns the error of an item that cannot be encoded, or OK.
func checkItem(item api.Item) api.Errno {
	if !bits.Valid(item.Data) {
		return api.ErrSyntax
	}
	if item.Fault != api.FtNone && item.Fault != api.FtCode {
		return api.ErrArg
	}
	if item.Fault == api.FtCode && (item.Aux < 0 || item.Aux >= len(item.Data)) {
		return api.ErrConflict
	}
	if item.Value != 0 || item.Fault == api.FtNone && item.Aux != 0 {
		return api.ErrArg
	}
	return api.OK
}

// send returns the runs of the channel for items that can be encoded.
func send(c api.Manchester, l []api.Item) ([]api.Run, api.Errno) {
	var s decoder.Sender
	rest := decoder.Boundary(c.T, idleBits)
	s.Send(0, rest)
	for _, item := range l {
		s.Send(0, item.Gap)
		transmit(&s, c.T, transmission(item))
		s.Send(0, rest)
	}
	runs, e := s.Runs()
	if !c.Ieee {
		runs = wave.Invert(runs)
	}
	return runs, e
}

// transmission returns the bits of a transmission.
func transmission(item api.Item) string {
	if item.Fault == api.FtCode {
		return start + item.Data[:item.Aux] + broken
	}
	return start + item.Data
}

// transmit sends the signal of bits that take t ticks each.
func transmit(s *decoder.Sender, t api.Ratio, sent string) {
	for k := range sent {
		begin, middle, end := decoder.Boundary(t, k), decoder.Sample(t, k), decoder.Boundary(t, k+1)
		first, second := halves(sent[k])
		s.Send(first, middle-begin)
		s.Send(second, end-middle)
	}
}

// halves returns the signal in the first and in the second half of a bit.
func halves(bit byte) (int, int) {
	switch bit {
	case '0':
		return 1, 0
	case '1':
		return 0, 1
	}
	return 1, 1
}
