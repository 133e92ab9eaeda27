package codegroup_test

import (
	"math/rand"
	"slices"
	"strings"
	"testing"

	"signalbench/api"
	"signalbench/codegroup"
	"signalbench/decodertest"
)

// P18.1
func TestCheck(x *testing.T) {
	for _, c := range both {
		if e := codegroup.Check(c); e != api.OK {
			x.Errorf("%v: error %d", c, e)
		}
	}
}

// P18.2
func TestDecode(x *testing.T) {
	const start = 7
	at := func(n int) int { return start + 4*n }
	decode := func(s string, last []api.Event, msbFirst, lsbFirst []api.Event) {
		x.Helper()
		decodes(x, msb, bits(joined(s), start), msbFirst, last)
		decodes(x, lsb, bits(joined(s), start), lsbFirst, last)
	}
	same := func(s string, last []api.Event, want ...api.Event) {
		x.Helper()
		decode(s, last, want, want)
	}
	same("", nil)
	same("11000 10001", nil)
	decode("11000 10001 01001 11100", nil, []api.Event{found(0x1e, at(10), at(20))}, []api.Event{found(0xe1, at(10), at(20))})
	decode("11000 10001 01001 11100 01101 00111", nil, []api.Event{found(0x1e, at(10), at(20))}, []api.Event{found(0xe1, at(10), at(20))})
	same("11000 10001 11110 11110 11101 11101 01101", nil, found(0, at(10), at(20)), found(0xff, at(20), at(30)))
	same("0 11000 10001 10100 10100", nil, found(0x22, at(11), at(21)))
	// Bits that are no groups, of the first and of the second half, after which the decoder searches.
	same("11000 10001 00000", nil, lost(api.FtCode, at(10), at(15)))
	same("11000 10001 00000 11110 11110 11000 10001 11110 11110", nil, lost(api.FtCode, at(10), at(15)), found(0, at(35), at(45)))
	same("11000 10001 11110 00000", nil, lost(api.FtCode, at(10), at(20)))
	same("11000 10001 11110 01101 11110 11110", nil, lost(api.FtCode, at(10), at(20)))
	same("11000 10001 00111 11110 11110", nil, lost(api.FtCode, at(10), at(15)))
	// The end delimiter, and what follows it.
	same("11000 10001 01101 11110 11110", nil)
	same("11000 10001 01101 00111 11000 10001 01101 00111", nil)
	same("11000 10001 01101 11000 10001 11110 11110", nil, found(0, at(25), at(35)))
	// What is not complete at the end of the input.
	same("11000 10001 010", []api.Event{lost(api.FtAborted, at(10), at(13))})
	same("11000 10001 1", []api.Event{lost(api.FtAborted, at(10), at(11))})
	same("11000 10001 11110", []api.Event{lost(api.FtAborted, at(10), at(15))})
	same("11000 10001 11110 11110 11110 1111", []api.Event{lost(api.FtAborted, at(20), at(29))}, found(0, at(10), at(20)))
	same("11000 10001 0110", []api.Event{lost(api.FtAborted, at(10), at(14))})
}

// P18.2: a search begins with no earlier bits. In each of these sequences there is a start delimiter that begins before it.
func TestEarlierBits(x *testing.T) {
	for _, s := range []string{"01101 10001 0001", "11000 10001", "00011 00010 001", "11110 11000 10001", "11110 01101 10001 0001", "11101 00011 00010 001", "11110 11110 01101 10001 0001"} {
		for _, c := range both {
			l := bits(joined("11000 10001"+s+"11110 11110"), 0)
			follows(x, c, l)
			got := codegroup.Decode(c, l)
			if n := len(got); n > 0 && got[n-1].To == l[len(l)-1].To {
				x.Errorf("%v %s: %v", c, s, got)
			}
		}
	}
}

// P18.2: the start delimiter after other bits, such as parts of it.
func TestSearch(x *testing.T) {
	for _, c := range both {
		for n := range 10 {
			for number := range 1 << n {
				before := decodertest.Sequence(number, n)
				l := bits(before+j+k+sent(c, "\x5a"), 3)
				if n < 9 {
					// Two delimiters can only overlap by one bit.
					decodes(x, c, l, []api.Event{found(0x5a, l[n+10].From, l[n+19].To)}, nil)
				}
				follows(x, c, l)
				follows(x, c, bits(before+j+before+k+sent(c, "\x5a"), 3))
				follows(x, c, bits((j + k)[:n]+before+(j + k)[n:]+sent(c, "\x5a"), 3))
			}
		}
		many := strings.Repeat("110001001", 5000)
		l := bits(many+j+k+sent(c, "z"), 0)
		decodes(x, c, l, []api.Event{found('z', l[len(many)+10].From, l[len(many)+19].To)}, nil)
	}
}

// P18.2: every byte, in both orders.
func TestBytes(x *testing.T) {
	for _, c := range both {
		for b := range 256 {
			l := bits(j+k+sent(c, string([]byte{byte(b), byte(255 - b)}))+t+r, b)
			decodes(x, c, l, []api.Event{found(b, l[10].From, l[19].To), found(255-b, l[20].From, l[29].To)}, nil)
		}
		all := decodertest.EveryByte()
		var want []api.Event
		l := bits(j+k+sent(c, all), 9)
		for i := range len(all) {
			want = append(want, found(int(all[i]), l[10+10*i].From, l[19+10*i].To))
		}
		decodes(x, c, l, want, nil)
	}
}

// P18.2, P18.3: all sequences of up to 12 bits at first, after the start delimiter and after a byte.
func TestShortSequences(x *testing.T) {
	for _, c := range both {
		for n := range 13 {
			for number := range 1 << n {
				s := decodertest.Sequence(number, n)
				follows(x, c, bits(s, number))
				follows(x, c, bits(j+k+s, number))
				follows(x, c, bits("1"+j+k+sent(c, "\xa3")+s, number))
			}
		}
	}
}

// P18.2, P18.3
func TestRandomEvents(x *testing.T) {
	r := rand.New(rand.NewSource(182))
	for range 2000 {
		l := decodertest.RandomTimes(random(r, r.Intn(30)), r.Intn)
		for _, c := range both {
			follows(x, c, l)
		}
	}
}

// P18.2: there is no limit of events or bytes.
func TestManyEvents(x *testing.T) {
	for _, c := range both {
		l := bits(j+k+sent(c, strings.Repeat("signals", api.MaxEvents/70)), 0)
		if got := codegroup.Decode(c, l); len(got) != (len(l)-10)/10 || got[len(got)-1] != found('s', l[len(l)-10].From, l[len(l)-1].To) {
			x.Errorf("%v: %s", c, brief(got))
		}
	}
}

// P18.3, D6: a faulty event anywhere in a transmission, in place of a bit or before it, whatever its fault and its value are.
func TestFaults(x *testing.T) {
	for _, c := range both {
		s := "1" + j + k + sent(c, "\x07\xf0") + t + r + j + k + sent(c, "A") + t + r
		for n := range len(s) {
			for _, e := range decodertest.Faulty(bits(s, 5)[n]) {
				l := bits(s, 5)
				opposite := e
				opposite.Value = 1 - e.Value
				for _, f := range []api.Event{e, opposite} {
					follows(x, c, slices.Concat(l[:n], []api.Event{f}, l[n:]))
					follows(x, c, slices.Concat(l[:n], []api.Event{f}, l[n+1:]))
					follows(x, c, slices.Concat(l[:n], []api.Event{f, f, e}, l[n:]))
				}
			}
		}
	}
}

// P18.3, D6: what a faulty event gives up, with its From as To.
func TestGivenUp(x *testing.T) {
	fault := func(from, to int) []api.Event {
		return []api.Event{{Kind: api.EvBit, From: from, To: to, Value: 1, Aux: 3, Data: "x", Fault: api.FtTiming}}
	}
	for _, c := range both {
		s := j + k + sent(c, "a")
		for n := 1; n <= len(s); n++ {
			var want []api.Event
			if n > 10 && n < 20 {
				want = []api.Event{lost(api.FtAborted, 40, 100)}
			}
			if n == 20 {
				want = []api.Event{found('a', 40, 80)}
			}
			l := append(bits(s[:n], 0), fault(100, 120)...)
			decodes(x, c, l, want, nil)
			// The rest of the bits is not searched for or read as part of the same byte.
			decodes(x, c, append(l, bits(s[n:], 110)...), want, nil)
			decodes(x, c, append(l, bits(s, 110)...), append(want, found('a', 150, 190)), nil)
		}
		// The faulty event begins where the last bit does, or the first one.
		l := append(bits(j+k, 0), bit(1, 50, 60), bit(1, 50, 70), bit(0, 52, 90))
		decodes(x, c, append(l, fault(52, 52)...), []api.Event{lost(api.FtAborted, 50, 52)}, nil)
		decodes(x, c, append(l[:12], fault(50, end)...), []api.Event{lost(api.FtAborted, 50, 50)}, nil)
	}
}

// P18.2, P18.3, D6
func TestRandomFaults(x *testing.T) {
	r := rand.New(rand.NewSource(183))
	for range 2000 {
		l := decodertest.RandomTimes(random(r, r.Intn(40)), r.Intn)
		for i := range l {
			if r.Intn(40) == 0 {
				l[i].Fault = 1 + r.Intn(api.FtUnknown)
			}
		}
		for _, c := range both {
			follows(x, c, l)
		}
	}
}

// P18.3, D7: the end gives up what is collected, with the To of the last event as To, however the others end.
func TestEnd(x *testing.T) {
	for _, c := range both {
		l := append(bits(j+k, 0), bit(1, 45, 99), bit(1, 47, 48), bit(0, 47, 60), bit(1, 47, 47))
		for n, to := range []int{99, 48, 60, 47} {
			decodes(x, c, l[:11+n], nil, []api.Event{lost(api.FtAborted, 45, to)})
		}
		decodes(x, c, append(l, bit(1, 50, end)), nil, []api.Event{lost(api.FtAborted, 45, end)})
		decodes(x, c, append(bits(j+k, 0), bit(1, end, end)), nil, []api.Event{lost(api.FtAborted, end, end)})
		// An ignored event does not count as the last one.
		decodes(x, c, append(l, bit(1, 46, 80), bit(2, 50, 90)), nil, []api.Event{lost(api.FtAborted, 45, 47)})
	}
}

// D4: an ignored event changes nothing, be it faulty or not.
func TestIgnoredEvents(x *testing.T) {
	for _, c := range both {
		l := bits("1"+j+k+sent(c, "\x1e\xe1")+t+j+k+sent(c, "\x77")+"00000"+r, 5)
		var mixed []api.Event
		s := codegroup.Start(c)
		for i, e := range l {
			wrong := decodertest.WrongBits(e)
			if i > 0 {
				wrong = append(wrong, decodertest.EarlyBits(l[i-1].From)...)
			}
			for _, other := range slices.Clone(wrong) {
				if other.Fault == api.FtNone {
					wrong = append(wrong, decodertest.Changed(other, decodertest.Fault, api.FtFraming, api.FtAborted)...)
				}
			}
			if got := functions.NotIgnored(c, s, wrong); len(got) > 0 {
				x.Errorf("%v %d: not ignored: %s", c, i, brief(got))
			}
			mixed = append(append(mixed, wrong...), e)
			s, _ = codegroup.Step(c, s, e)
		}
		follows(x, c, l)
		want, last := model(c, l)
		decodes(x, c, mixed, want, last)
	}
}

// D4: an event is in order if it does not begin before the last accepted one, be that one faulty or not, whenever it ends.
func TestOrder(x *testing.T) {
	for _, c := range both {
		for _, fault := range []int{api.FtNone, api.FtStuff} {
			first := bit(0, 100, 500)
			first.Fault = fault
			l := []api.Event{first}
			for i, e := range bits(j+k+sent(c, "M"), 100) {
				l = append(l, bit(1-e.Value, 96+3*i, 1000), bit(e.Value, 100+3*i, 100+2*i), bit(e.Value, 100+3*i, 600))
			}
			// The second event of each bit is not valid, apart from the first one, which ends where it begins.
			l = slices.Delete(l, 2, 3)
			decodes(x, c, l, []api.Event{found('M', 130, 600)}, nil)
		}
	}
}

// P18.2: Aux and Data of the bits do not matter.
func TestOtherFields(x *testing.T) {
	for _, c := range both {
		l := bits(j+k+sent(c, "\x0b")+"1", 0)
		want, last := model(c, l)
		for i := range l {
			for _, e := range decodertest.AcceptedLevels(l[i]) {
				decodes(x, c, slices.Concat(l[:i], []api.Event{e}, l[i+1:]), want, last)
			}
		}
	}
}
