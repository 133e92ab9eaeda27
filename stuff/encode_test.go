package stuff_test

import (
	"math"
	"math/rand"
	"slices"
	"strings"
	"testing"

	"signalbench/api"
	"signalbench/decodertest"
	"signalbench/stuff"
)

// faulty returns an item whose first stuff bit is wrong.
func faulty(data string) api.Item { return api.Item{Data: data, Fault: api.FtStuff} }

// plain returns items with these data and without gaps.
func plain(data ...string) []api.Item {
	l := items(data...)
	for i := range l {
		l[i].Gap = 0
	}
	return l
}

// P19.3
func TestEncode(t *testing.T) {
	for _, x := range []struct {
		c          api.Stuff
		data, want string
	}{
		{ones(5), "", ""},
		{ones(5), "1111", "1111"},
		{ones(5), "11111", "111110"},
		{ones(5), "111111", "1111101"},
		{ones(5), "1111111111", "111110111110"},
		{ones(5), "0000000000", "0000000000"},
		{ones(5), "1111011111011111", "111101111100111110"},
		{ones(2), "110110", "11001100"},
		{equal(3), "0001", "00011"},
		{equal(3), "000111", "00011101"},
		{equal(3), "111000", "11100010"},
		{equal(3), "000", "0001"},
		{equal(3), "0010110", "0010110"},
		{equal(3), "00011", "000111" + "0"},
		{equal(2), "0011", "001101"},
		{equal(2), "00000", "0010010"},
		{equal(16), strings.Repeat("1", 33), strings.Repeat("1", 16) + "0" + strings.Repeat("1", 16) + "0" + "1"},
		{ones(16), strings.Repeat("1", 15) + "0" + strings.Repeat("1", 16), strings.Repeat("1", 15) + "0" + strings.Repeat("1", 16) + "0"},
	} {
		encodes(t, x.c, []api.Item{{Gap: 3, Data: x.data}}, []api.Item{{Gap: 3, Data: x.want}})
	}
}

// P19.3: the counter continues from item to item, also across one without bits, and every gap is kept.
func TestEncodeItems(t *testing.T) {
	encodes(t, equal(3), items("00", "", "0", "11", "1", "0", "01", "11"), items("00", "", "01", "110", "1", "0", "01", "110"))
	encodes(t, ones(3), items("11", "", "1", "11", "0", "111", "111"), items("11", "", "10", "11", "0", "1110", "1110"))
	encodes(t, equal(2), []api.Item{{Gap: api.MaxGap, Data: "0"}, {Gap: 1, Data: "0"}, {Data: "1"}}, []api.Item{{Gap: api.MaxGap, Data: "0"}, {Gap: 1, Data: "01"}, {Data: "10"}})
}

// P19.3: the first stuff bit of a faulty item is wrong and is not counted, and the other ones are right.
func TestEncodeFaults(t *testing.T) {
	for _, x := range []struct {
		c    api.Stuff
		l    []api.Item
		want []string
	}{
		{equal(3), []api.Item{faulty("000")}, []string{"0000"}},
		{equal(3), []api.Item{faulty("111")}, []string{"1111"}},
		{equal(3), []api.Item{faulty("00000000")}, []string{"0000" + "0001" + "00"}},
		{equal(3), []api.Item{faulty("000111")}, []string{"0000" + "1110"}},
		{equal(3), []api.Item{faulty("00011"), {Data: "1"}}, []string{"0000" + "11", "10"}},
		{equal(3), []api.Item{faulty("000"), {Data: "00"}, {Data: "0"}}, []string{"0000", "00", "01"}},
		{equal(3), []api.Item{faulty("000"), faulty("000"), {Data: "000"}}, []string{"0000", "0000", "0001"}},
		// The wrong bit is in the item with the last bit of the run.
		{equal(3), []api.Item{{Data: "00"}, faulty("0")}, []string{"00", "00"}},
		{equal(3), []api.Item{{Data: "00"}, {}, faulty("01")}, []string{"00", "", "001"}},
		{equal(3), []api.Item{{Data: "000"}, faulty("11")}, []string{"0001", "111"}},
		{ones(5), []api.Item{faulty("111111")}, []string{"1111111"}},
		{ones(5), []api.Item{faulty("11111" + "1111101")}, []string{"111111" + "111110" + "01"}},
		{ones(2), []api.Item{{Data: "01"}, faulty("1"), {Data: "1"}, faulty("1")}, []string{"01", "11", "1", "11"}},
	} {
		encodes(t, x.c, x.l, plain(x.want...))
		follows(t, x.c, bits(strings.Join(x.want, ""), 0))
	}
}

// P19.3: an item in which no stuff bit is due cannot have a wrong one. Whether one is due depends on the items before it.
func TestNoStuffBit(t *testing.T) {
	for _, c := range configurations(most) {
		run := strings.Repeat("1", c.Run)
		encodes(t, c, []api.Item{faulty(run)}, plain(run+"1"))
		encodes(t, c, []api.Item{{Data: run[1:]}, faulty("1")}, plain(run[1:], "11"))
		refuses(t, c, []api.Item{faulty("")}, api.ErrConflict)
		refuses(t, c, []api.Item{faulty(run[1:])}, api.ErrConflict)
		refuses(t, c, []api.Item{faulty("0" + run[1:])}, api.ErrConflict)
		refuses(t, c, []api.Item{{Data: run}, faulty(run[1:])}, api.ErrConflict)
		refuses(t, c, []api.Item{faulty(run), faulty(run[1:])}, api.ErrConflict)
		refuses(t, c, []api.Item{{Data: run}, faulty("")}, api.ErrConflict)
		refuses(t, c, []api.Item{{Data: run[1:] + "0"}, faulty("1")}, api.ErrConflict)
		zeros := strings.Repeat("0", c.Run)
		if c.Ones {
			refuses(t, c, []api.Item{faulty(zeros + zeros)}, api.ErrConflict)
		} else {
			encodes(t, c, []api.Item{faulty(zeros)}, plain(zeros+"0"))
			// The stuff bit 0 after the ones is the first bit of the next run.
			encodes(t, c, []api.Item{{Data: run}, faulty(zeros[1:])}, plain(run+"0", zeros))
			refuses(t, c, []api.Item{faulty(run), faulty(zeros[1:])}, api.ErrConflict)
		}
	}
}

// P19.3: all sequences of up to 12 bits, in one item and in three, of which one is faulty if it can be.
func TestEncodeShortSequences(t *testing.T) {
	for _, c := range configurations(6) {
		for n := range 13 {
			for number := range 1 << n {
				s := decodertest.Sequence(number, n)
				l := items(s[:n/3], s[n/3:2*n/3], s[2*n/3:])
				encodes(t, c, items(s), encoded(c, items(s)))
				right := encoded(c, l)
				encodes(t, c, l, right)
				for i := range l {
					l := slices.Clone(l)
					l[i].Fault = api.FtStuff
					if right[i].Data == l[i].Data {
						refuses(t, c, l, api.ErrConflict)
					} else {
						encodes(t, c, l, encoded(c, l))
					}
				}
			}
		}
	}
}

// P19.3: with Ones, stuff bits are those of the well-known replacement.
func TestReplacement(t *testing.T) {
	r := rand.New(rand.NewSource(193))
	for range 200 {
		s := runs(r, r.Intn(40))
		for n := least; n <= most; n++ {
			run := strings.Repeat("1", n)
			encodes(t, ones(n), items(s), items(strings.ReplaceAll(s, run, run+"0")))
		}
	}
}

// P19.3, D9: as many items and as much data as possible, and no items.
func TestEncodeAtTheLimits(t *testing.T) {
	for _, c := range configurations(most) {
		encodes(t, c, nil, nil)
		encodes(t, c, []api.Item{}, nil)
		full := make([]api.Item, api.MaxItems)
		encodes(t, c, full, full)
		for i := range full {
			full[i] = api.Item{Gap: api.MaxGap, Data: strings.Repeat("01", api.MaxData/2)}
		}
		encodes(t, c, full, full)
	}
}

// P19.3: an item with its stuff bits may have as much data as one without them, but no more.
func TestLongItems(t *testing.T) {
	for _, c := range configurations(most) {
		ones := strings.Repeat("1", api.MaxData)
		// The greatest number of ones that are not too many with their stuff bits.
		n := 0
		for n+1+(n+1)/c.Run <= api.MaxData {
			n++
		}
		for _, l := range [][]api.Item{items(ones[:n]), {{Data: "0"}, {Data: ones[:n]}}, {faulty(ones[:n])}, {{Data: ones[:n], Gap: 3}, {Data: "0"}, {Data: ones[:n]}}} {
			encodes(t, c, l, encoded(c, l))
		}
		for _, m := range []int{n + 1, n + 2, api.MaxData - 1, api.MaxData} {
			refuses(t, c, items(ones[:m]), api.ErrLimit)
			refuses(t, c, items("0", ones[:m]), api.ErrLimit)
			refuses(t, c, []api.Item{faulty(ones[:m])}, api.ErrLimit)
		}
	}
}

// P19.3: the bits before an item can make it too long, and so can its fault, or the absence of the fault.
func TestOtherLengths(t *testing.T) {
	c := equal(3)
	data := "00" + strings.Repeat("10", api.MaxData/2-1)
	encodes(t, c, items("1", data), items("1", data))
	encodes(t, c, items("0", data[1:]), items("0", data[1:]))
	encodes(t, c, items("0", data[:api.MaxData-1]), items("0", "001"+data[2:api.MaxData-1]))
	refuses(t, c, items("0", data), api.ErrLimit)

	// After a right stuff bit, the bits 01 go on in one of these items without another one, after a wrong one in the other item.
	c = equal(2)
	data = "001" + strings.Repeat("01", api.MaxData/2-2)
	encodes(t, c, []api.Item{faulty(data)}, plain("000"+data[2:]))
	refuses(t, c, []api.Item{faulty(data + "0")}, api.ErrLimit)
	refuses(t, c, items(data), api.ErrLimit)
	data = "0011" + strings.Repeat("01", api.MaxData/2-3)
	encodes(t, c, items(data), items("001101"+data[4:]))
	refuses(t, c, items(data+"0"), api.ErrLimit)
	refuses(t, c, []api.Item{faulty(data)}, api.ErrLimit)
}

// wrongItems returns items that cannot be encoded by a sender that breaks runs of at most 16 ones, and their errors.
func wrongItems() map[api.Item]api.Errno {
	long := strings.Repeat("1", api.MaxData)
	all := map[api.Item]api.Errno{
		{Data: long + "0"}: api.ErrLimit,
		{Data: long + "x", Value: 1, Aux: 1, Fault: 1}:    api.ErrLimit,
		{Data: strings.Repeat("x", api.MaxBits+1)}:        api.ErrLimit,
		{Gap: -1, Data: long + "x", Fault: 1}:             api.ErrArg,
		{Gap: api.MaxGap + 1, Data: long}:                 api.ErrArg,
		{Gap: api.MaxGap + 1, Fault: api.FtStuff}:         api.ErrArg,
		{Gap: -1, Data: "x"}:                              api.ErrArg,
		{Gap: api.MaxGap, Data: "x"}:                      api.ErrSyntax,
		{Data: "x", Fault: 1}:                             api.ErrSyntax,
		{Data: "x", Fault: api.FtStuff}:                   api.ErrSyntax,
		{Data: "x", Value: 1, Aux: 1, Fault: -1}:          api.ErrSyntax,
		{Data: long[1:] + "x"}:                            api.ErrSyntax,
		{Data: "x" + long[1:], Fault: api.FtStuff}:        api.ErrSyntax,
		{Data: "0", Fault: api.FtStuff}:                   api.ErrConflict,
		{Data: "0", Fault: api.FtStuff, Value: 1}:         api.ErrConflict,
		{Fault: api.FtStuff, Aux: -1}:                     api.ErrConflict,
		{Data: long}:                                      api.ErrLimit,
		{Data: long, Fault: api.FtStuff}:                  api.ErrLimit,
		{Data: long, Value: 1}:                            api.ErrLimit,
		{Data: long, Aux: 1, Fault: api.FtStuff}:          api.ErrLimit,
		{Data: long[:most], Value: 1, Fault: 6}:           api.ErrArg,
		{Data: long[:most], Value: 1}:                     api.ErrArg,
		{Data: long[:most], Aux: -1}:                      api.ErrArg,
		{Data: long[:most], Value: 1, Fault: api.FtStuff}: api.ErrArg,
		{Data: long[:most], Aux: 1, Fault: api.FtStuff}:   api.ErrArg,
	}
	for _, s := range []string{"2", " ", "\x00", "\x01", "/", "0x1", "1 ", "\xff", "١", "-1"} {
		all[api.Item{Data: s}] = api.ErrSyntax
	}
	for _, n := range []int{math.MinInt, -1, 1, 3, 5, api.FtUnknown, api.FtUnknown + 1, 256 + api.FtStuff, math.MaxInt} {
		for _, data := range []string{"", "0", long[:most], long} {
			all[api.Item{Data: data, Fault: n}] = api.ErrArg
			all[api.Item{Data: data, Fault: n, Value: n, Aux: n}] = api.ErrArg
		}
		all[api.Item{Value: n}] = api.ErrArg
		all[api.Item{Aux: n}] = api.ErrArg
		all[api.Item{Data: "01", Aux: n, Value: n}] = api.ErrArg
	}
	for _, item := range decodertest.OtherGaps(api.Item{Data: "1"}, api.MaxGap) {
		all[item] = api.ErrArg
	}
	return all
}

// P19.3: the errors of an item in their order, wherever it stands.
func TestErrorsOfItems(t *testing.T) {
	for _, c := range []api.Stuff{ones(2), ones(16), equal(2), equal(16)} {
		for item, want := range wrongItems() {
			refuses(t, c, []api.Item{item}, want)
			for _, second := range []api.Item{{Data: "x"}, {Gap: -1}, {Data: strings.Repeat("1", api.MaxData)}, faulty("0"), {Fault: 1}} {
				refuses(t, c, []api.Item{item, second}, want)
				refuses(t, c, []api.Item{{Data: "010"}, {}, {Data: "1"}, item, second}, want)
			}
		}
	}
}

// D9: the error of too many items comes before those of the items.
func TestTooManyItems(t *testing.T) {
	for _, c := range configurations(3) {
		many := make([]api.Item, api.MaxItems+1)
		refuses(t, c, many, api.ErrLimit)
		for _, i := range []int{0, api.MaxItems - 1} {
			many := slices.Clone(many)
			many[i].Fault = api.FtStuff
			refuses(t, c, many, api.ErrLimit)
			refuses(t, c, many[:api.MaxItems], api.ErrConflict)
		}
	}
}

// randomItems returns items with random bits.
func randomItems(r *rand.Rand) []api.Item {
	var data []string
	for range r.Intn(8) {
		data = append(data, runs(r, r.Intn(10)), strings.Repeat("0", r.Intn(3)), strings.Repeat("1", r.Intn(3)))
	}
	return items(data...)
}

// sent returns encoded items and events for their bits with random times.
func sent(t *testing.T, c api.Stuff, l []api.Item, r *rand.Rand) ([]api.Item, []api.Event) {
	t.Helper()
	all, e := stuff.Encode(c, l)
	if e != api.OK || len(all) != len(l) {
		t.Fatalf("%v %s: %s, error %d", c, brief(l), brief(all), e)
	}
	return all, decodertest.RandomTimes(decodertest.Joined(all), r.Intn)
}

// values returns the bits of events, with an x for one with the fault FtStuff.
func values(l []api.Event) string {
	var s strings.Builder
	for _, e := range l {
		if e.Fault == api.FtStuff {
			s.WriteByte('x')
		} else {
			s.WriteByte('0' + byte(e.Value))
		}
	}
	return s.String()
}

// P19.4: encoded bits at any times are decoded as the bits of the items.
func TestRoundTrip(t *testing.T) {
	r := rand.New(rand.NewSource(194))
	for range 300 {
		l := randomItems(r)
		for _, c := range configurations(most) {
			_, events := sent(t, c, l, r)
			if got := values(stuff.Decode(c, events)); got != decodertest.Joined(l) {
				t.Errorf("%v %s: %s", c, brief(l), got)
			}
			follows(t, c, events)
		}
	}
}

// P19.5: encoded items without faults have no runs of more than Run bits, or ones.
func TestLongestRuns(t *testing.T) {
	r := rand.New(rand.NewSource(195))
	for range 300 {
		l := randomItems(r)
		for _, c := range configurations(most) {
			all, _ := sent(t, c, l, r)
			s := decodertest.Joined(all)
			if strings.Contains(s, strings.Repeat("1", c.Run+1)) || !c.Ones && strings.Contains(s, strings.Repeat("0", c.Run+1)) {
				t.Errorf("%v %s: %s", c, brief(l), s)
			}
		}
	}
}

// P19.5: each faulty item gives one event with the fault, and everything else is decoded as without faults.
func TestFaultyItems(t *testing.T) {
	r := rand.New(rand.NewSource(196))
	for range 60 {
		drawn := randomItems(r)
		for _, c := range configurations(most) {
			l := withFaults(c, drawn, r)
			all, events := sent(t, c, l, r)
			begin := 0
			for i, item := range all {
				next := begin + len(item.Data)
				// What is decoded from the bits of one item is the rest of what is decoded up to it.
				got := values(stuff.Decode(c, events[:next]))[len(values(stuff.Decode(c, events[:begin]))):]
				if strings.Replace(got, "x", "", 1) != l[i].Data || strings.Count(got, "x") != l[i].Fault/api.FtStuff {
					t.Errorf("%v %s: item %d: %s", c, brief(l), i, got)
				}
				begin = next
			}
			encodes(t, c, l, encoded(c, l))
			follows(t, c, events)
		}
	}
}

// withFaults returns the items, some of those with stuff bits with the fault.
func withFaults(c api.Stuff, l []api.Item, r *rand.Rand) []api.Item {
	l = slices.Clone(l)
	for i := range l {
		// The stuff bits of an item depend on the faults before it.
		if r.Intn(2) == 0 && encoded(c, l)[i].Data != l[i].Data {
			l[i].Fault = api.FtStuff
		}
	}
	return l
}
