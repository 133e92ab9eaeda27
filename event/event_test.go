package event_test

import (
	"fmt"
	"math"
	"math/rand"
	"slices"
	"strings"
	"testing"

	"signalbench/api"
	"signalbench/event"
)

// most is the greatest magnitude of Value and Aux.
const most = 1 << 53

// ev returns the event with these fields.
func ev(kind, from, to, value, aux int, data string, fault int) api.Event {
	return api.Event{Kind: kind, From: from, To: to, Value: value, Aux: aux, Data: data, Fault: fault}
}

// at returns a byte from a to before b.
func at(a, b int) api.Event { return ev(api.EvByte, a, b, 65, 0, "", 0) }

// right returns valid events: ordinary ones, and those at the limits of every field.
func right() []api.Event {
	const end = api.MaxTime
	l := []api.Event{
		ev(3, 10, 20, 65, 0, "", 0), ev(2, 0, 4, 1, 0, "", 0), ev(5, 7, 90, 291, 8, "\x01\x02", 3), ev(6, 1, 2, -5, -6, "a b", 7), ev(8, 1<<31, 1<<32, 1<<40, -1<<40, "\"\\\n\xff", 12),
		ev(1, 0, 0, 0, 0, "", 0), ev(1, 0, end, 0, 0, "", 0), ev(1, end, end, 0, 0, "", 0), ev(4, end-1, end, 0, 0, "", 0), ev(4, 5, 5, 0, 0, "", 0),
	}
	for kind := api.EvLevel; kind <= api.EvPair; kind++ {
		l = append(l, ev(kind, 3, 9, 1, 2, "x", 0))
	}
	for fault := api.FtNone; fault <= api.FtUnknown; fault++ {
		l = append(l, ev(api.EvFrame, 3, 9, 1, 2, "x", fault))
	}
	for _, n := range []int{0, 1, -1, 9, -10, 1 << 40, 1<<40 + 1, -1 << 40, 1<<52 + 1, most - 1, most, 1 - most, -most} {
		l = append(l, ev(api.EvBit, 3, 9, n, 0, "", 0), ev(api.EvBit, 3, 9, 0, n, "", 0), ev(api.EvBit, 3, 9, n, n, "", 0), ev(api.EvBit, 3, 9, n, -n, "", 0))
	}
	for _, part := range []string{"a", " ", "\x00", "\xff", "\"", "\\", "\n", "\x7f", "~"} {
		for _, n := range []int{1, 2, api.MaxData - 1, api.MaxData} {
			l = append(l, ev(api.EvPacket, 3, 9, 0, 0, strings.Repeat(part, n), 0))
		}
	}
	return append(l, ev(api.EvPacket, 3, 9, 0, 0, strings.Repeat("é", api.MaxData/2), 0), ev(8, end, end, most, -most, strings.Repeat("\xff", api.MaxData), 12))
}

// wrong returns events that are not valid, most of them because of one field.
func wrong() []api.Event {
	const end = api.MaxTime
	l := []api.Event{{}, {To: 5}, {Kind: -1, From: -1, To: -2, Value: most + 1, Aux: most + 1, Fault: -1}, at(-1, -1), at(end+1, end+1), at(5, 4), at(1, 0), at(end, end-1), at(end, 0), at(-2, -1), at(-1, end+1)}
	for _, n := range []int{math.MinInt, math.MinInt + 1, -1 << 32, -256, -2, -1, 1 << 8, 1 << 32, math.MaxInt - 1, math.MaxInt} {
		l = append(l, ev(n, 3, 9, 0, 0, "", 0), ev(3, 3, 9, 0, 0, "", n))
	}
	for _, n := range []int{0, api.EvPair + 1, api.EvPair + 2, 1<<8 + 1, 1<<32 + 1, 12} {
		l = append(l, ev(n, 3, 9, 0, 0, "", 0))
	}
	for _, n := range []int{api.FtUnknown + 1, api.FtUnknown + 2, 1<<8 + 1, 1<<32 + 1} {
		l = append(l, ev(3, 3, 9, 0, 0, "", n))
	}
	for _, n := range []int{math.MinInt, math.MinInt + 1, -1 << 54, -most - 2, -most - 1, most + 1, most + 2, 1 << 54, math.MaxInt - 1, math.MaxInt} {
		l = append(l, ev(3, 3, 9, n, 0, "", 0), ev(3, 3, 9, 0, n, "", 0))
	}
	for _, n := range []int{math.MinInt, math.MinInt + 1, -end, -2, -1} {
		l = append(l, at(n, n), at(n, 0), at(n, 5), at(n, end), at(n, math.MaxInt), at(0, n), at(5, n), at(end, n))
	}
	for _, n := range []int{end + 1, end + 2, 1 << 53, math.MaxInt - 1, math.MaxInt} {
		l = append(l, at(0, n), at(5, n), at(end, n), at(n, n), at(n, 0), at(n, end))
	}
	for _, s := range []string{strings.Repeat("a", api.MaxData+1), strings.Repeat("\xff", api.MaxData+1), strings.Repeat("é", api.MaxData/2) + "a", strings.Repeat("é", api.MaxData), strings.Repeat("a", 1<<16)} {
		l = append(l, ev(3, 3, 9, 0, 0, s, 0))
	}
	return l
}

// all returns valid events and events that are not valid.
func all() []api.Event { return slices.Concat(right(), wrong()) }

// brief returns the beginning of an event or a list of events as text.
func brief(x any) string { return fmt.Sprintf("%.300s", fmt.Sprintf("%#v", x)) }

// precedes reports what Less must report, from lists of the fields in which the Data is one element.
func precedes(a, b api.Event) bool {
	x, y := []int{a.From, a.To, a.Kind, a.Value, a.Aux, 0, a.Fault}, []int{b.From, b.To, b.Kind, b.Value, b.Aux, 0, b.Fault}
	x[5], y[5] = ranks(a.Data, b.Data)
	for i := range x {
		if x[i] != y[i] {
			return x[i] < y[i]
		}
	}
	return false
}

// ranks returns two numbers that compare like the bytes of two strings.
func ranks(s, t string) (int, int) {
	for i := range min(len(s), len(t)) {
		if s[i] != t[i] {
			return int(s[i]), int(t[i])
		}
	}
	return len(s), len(t)
}

// inserted returns what Sort must return, by insertion.
func inserted(l []api.Event) []api.Event {
	var sorted []api.Event
	for _, e := range l {
		i := len(sorted)
		for i > 0 && precedes(e, sorted[i-1]) {
			i--
		}
		sorted = slices.Insert(sorted, i, e)
	}
	return sorted
}

// near returns a random event, valid or not, whose fields have few values, so that many of them are equal.
func near(r *rand.Rand) api.Event {
	pick := func(l ...int) int { return l[r.Intn(len(l))] }
	data := []string{"", "a", "b", "ab", "\xff", "é"}
	return ev(pick(0, 3, 4), pick(-1, 5, 6), pick(5, 6, 10), pick(-1, 1, 1<<54), pick(-2, 2, 10), data[r.Intn(len(data))], pick(0, 1, 13))
}

// valid returns a random valid event with fields of all magnitudes.
func valid(r *rand.Rand) api.Event {
	a, b := r.Intn(api.MaxTime+1)>>r.Intn(41), r.Intn(api.MaxTime+1)>>r.Intn(41)
	b = max(a, b)
	number := func() int { return (r.Intn(most+1) >> r.Intn(54)) * (1 - 2*r.Intn(2)) }
	data := make([]byte, r.Intn(12)*r.Intn(2))
	for i := range data {
		data[i] = byte(r.Intn(256))
	}
	return ev(1+r.Intn(8), a, b, number(), number(), string(data), r.Intn(13))
}

// some returns up to n random events of a source.
func some(r *rand.Rand, n int, source func(*rand.Rand) api.Event) []api.Event {
	var l []api.Event
	for range r.Intn(n + 1) {
		l = append(l, source(r))
	}
	return l
}

// P7.1
func TestValid(t *testing.T) {
	for _, e := range right() {
		if !event.Valid(e) {
			t.Errorf("not valid: %s", brief(e))
		}
	}
	for _, e := range wrong() {
		if event.Valid(e) {
			t.Errorf("valid: %s", brief(e))
		}
	}
}

// P7.1
func TestValidTimes(t *testing.T) {
	for _, lo := range []int{-3, 1<<31 - 3, api.MaxTime - 3} {
		for a := lo; a <= lo+6; a++ {
			for b := lo; b <= lo+6; b++ {
				inside := a >= 0 && a <= api.MaxTime && b >= 0 && b <= api.MaxTime
				if want := inside && b-a >= 0; event.Valid(at(a, b)) != want {
					t.Errorf("%d to %d: not %v", a, b, want)
				}
			}
		}
	}
}

// P7.1
func TestValidKindAndFault(t *testing.T) {
	for n := -20; n <= 300; n++ {
		if want := slices.Contains([]int{1, 2, 3, 4, 5, 6, 7, 8}, n); event.Valid(ev(n, 1, 2, 0, 0, "", 0)) != want {
			t.Errorf("kind %d: not %v", n, want)
		}
		if want := slices.Contains([]int{0, 1, 2, 3, 4, 5, 6, 7, 8, 9, 10, 11, 12}, n); event.Valid(ev(1, 1, 2, 0, 0, "", n)) != want {
			t.Errorf("fault %d: not %v", n, want)
		}
	}
}

// P7.1
func TestLessOfEveryField(t *testing.T) {
	numbers := [][2]int{{0, 1}, {-1, 0}, {9, 10}, {-10, -9}, {-1, 1}, {most, most + 1}, {-most - 1, -most}, {1 << 32, 1<<32 + 1}, {math.MinInt, math.MaxInt}, {math.MinInt, 0}, {-2, math.MaxInt}, {math.MaxInt - 1, math.MaxInt}}
	texts := [][2]string{{"", "a"}, {"", "\x00"}, {"a", "b"}, {"a", "aa"}, {"aa", "b"}, {"Z", "a"}, {"10", "9"}, {"z", "é"}, {"\x7f", "\x80"}, {"\xc3\xa9", "\xff"}, {"\xfe", "\xff"}, {"\ufffd", "\xff"}, {"\ufb00", "\U00010000"}, {"a\x00", "a\x01"}, {"ab", "ab\x00"}}
	for i, n := range numbers {
		for _, s := range texts {
			lessOfFields(t, n, numbers[(i+5)%len(numbers)], s)
		}
	}
}

// lessOfFields compares events whose fields have the smaller or the greater one of two values each, in all combinations.
func lessOfFields(t *testing.T, n, m [2]int, s [2]string) {
	t.Helper()
	for i := range 1 << 14 {
		x := func(k int) (int, int) { return i >> (2 * k) & 1, i >> (2*k + 1) & 1 }
		var a, b api.Event
		first := 0
		for k := 6; k >= 0; k-- {
			j, l := x(k)
			switch k {
			case 0:
				a.From, b.From = n[j], n[l]
			case 1:
				a.To, b.To = m[j], m[l]
			case 2:
				a.Kind, b.Kind = n[j], n[l]
			case 3:
				a.Value, b.Value = m[j], m[l]
			case 4:
				a.Aux, b.Aux = n[j], n[l]
			case 5:
				a.Data, b.Data = s[j], s[l]
			case 6:
				a.Fault, b.Fault = m[j], m[l]
			}
			if j != l {
				first = l - j
			}
		}
		if less := event.Less(a, b); less != (first > 0) {
			t.Fatalf("%#v %#v: %v", a, b, less)
		}
	}
}

// P7.1, P7.7
func TestLessOfPairs(t *testing.T) {
	for _, a := range all() {
		for _, b := range all() {
			less, greater := event.Less(a, b), event.Less(b, a)
			if less != precedes(a, b) || greater != precedes(b, a) || less == (greater || a == b) {
				t.Errorf("%s %s: %v %v", brief(a), brief(b), less, greater)
			}
		}
	}
	r := rand.New(rand.NewSource(71))
	for range 200000 {
		a, b, c := near(r), near(r), near(r)
		if event.Less(a, b) != precedes(a, b) {
			t.Errorf("%#v %#v: %v", a, b, event.Less(a, b))
		}
		if event.Less(a, b) && event.Less(b, c) && !event.Less(a, c) {
			t.Errorf("%#v %#v %#v: not in order", a, b, c)
		}
		if (a != b) != (event.Less(a, b) || event.Less(b, a)) {
			t.Errorf("%#v %#v: %v", a, b, event.Less(a, b))
		}
	}
}

// P7.2
func TestSort(t *testing.T) {
	a, b, c, d := at(1, 2), at(1, 3), at(4, 4), ev(api.EvBit, 4, 4, 0, 0, "", 0)
	for _, x := range []struct{ l, want []api.Event }{
		{nil, nil}, {[]api.Event{}, nil}, {[]api.Event{a}, []api.Event{a}}, {[]api.Event{b, a}, []api.Event{a, b}}, {[]api.Event{c, d}, []api.Event{d, c}},
		{[]api.Event{c, b, d, a}, []api.Event{a, b, d, c}}, {[]api.Event{a, b, d, c}, []api.Event{a, b, d, c}}, {[]api.Event{b, a, b, a, b}, []api.Event{a, a, b, b, b}},
		{[]api.Event{a, {}, at(-1, -5), {From: math.MaxInt}, {From: math.MinInt}}, []api.Event{{From: math.MinInt}, at(-1, -5), {}, a, {From: math.MaxInt}}},
	} {
		if r := event.Sort(x.l); !slices.Equal(r, x.want) {
			t.Errorf("%#v: %#v, not %#v", x.l, r, x.want)
		}
	}
}

// P7.2, P7.7
func TestSortOfLists(t *testing.T) {
	r := rand.New(rand.NewSource(72))
	lists := [][]api.Event{right(), wrong(), all()}
	for range 3000 {
		lists = append(lists, some(r, 8, near), some(r, 8, valid))
	}
	for range 20 {
		lists = append(lists, some(r, 400, near), some(r, 400, valid))
	}
	for _, l := range lists {
		before := slices.Clone(l)
		sorted := event.Sort(l)
		if !slices.Equal(sorted, inserted(l)) {
			t.Errorf("%s: %s", brief(l), brief(sorted))
		}
		if !slices.Equal(l, before) {
			t.Errorf("%s, not %s", brief(l), brief(before))
		}
		if !event.Ordered(sorted) || !slices.Equal(event.Sort(sorted), sorted) {
			t.Errorf("%s: not in order: %s", brief(l), brief(sorted))
		}
		counts := map[api.Event]int{}
		for i, e := range sorted {
			counts[e]++
			counts[l[i]]--
		}
		for e, n := range counts {
			if n != 0 {
				t.Errorf("%s: %d times too often %s", brief(l), n, brief(e))
			}
		}
	}
}

// P7.2
func TestSortOfManyEvents(t *testing.T) {
	r := rand.New(rand.NewSource(73))
	data := strings.Repeat("q", api.MaxData)
	var l []api.Event
	for i := range api.MaxEvents {
		l = append(l, ev(api.EvPacket, i/4, i, 1, 1, data, 0))
	}
	mixed := slices.Clone(l)
	r.Shuffle(len(mixed), func(i, j int) { mixed[i], mixed[j] = mixed[j], mixed[i] })
	if !slices.Equal(event.Sort(mixed), l) || !event.Ordered(l) || event.Ordered(mixed) {
		t.Error("wrong order")
	}
}

// P7.2
func TestOrdered(t *testing.T) {
	a, b, c, d := at(1, 2), at(1, 3), at(4, 4), at(5, 9)
	for _, x := range []struct {
		l    []api.Event
		want bool
	}{
		{nil, true}, {[]api.Event{}, true}, {[]api.Event{d}, true}, {[]api.Event{a, b}, true}, {[]api.Event{b, a}, false}, {[]api.Event{a, a}, true}, {[]api.Event{a, a, b, b, b}, true},
		{[]api.Event{a, b, c, d}, true}, {[]api.Event{b, a, c, d}, false}, {[]api.Event{a, c, b, d}, false}, {[]api.Event{a, b, d, c}, false}, {[]api.Event{a, b, c, a}, false},
		{[]api.Event{{}}, true}, {[]api.Event{{}, a}, true}, {[]api.Event{a, {}}, false}, {[]api.Event{{}, {}}, true}, {[]api.Event{a, at(5, 3)}, true}, {[]api.Event{at(math.MinInt, 0), at(math.MaxInt, 0)}, true}, {[]api.Event{at(math.MaxInt, 0), at(math.MinInt, 0)}, false},
		// Only the last field differs.
		{[]api.Event{ev(3, 1, 2, 3, 4, "a", 0), ev(3, 1, 2, 3, 4, "a", 1)}, true}, {[]api.Event{ev(3, 1, 2, 3, 4, "a", 1), ev(3, 1, 2, 3, 4, "a", 0)}, false},
		// A repeated list is out of order where it begins again.
		{[]api.Event{a, d, a, d}, false},
	} {
		if event.Ordered(x.l) != x.want {
			t.Errorf("%#v: not %v", x.l, x.want)
		}
	}
	r := rand.New(rand.NewSource(74))
	for range 20000 {
		l := some(r, 4, near)
		want := true
		for i := 1; i < len(l); i++ {
			want = want && !precedes(l[i], l[i-1])
		}
		if event.Ordered(l) != want {
			t.Errorf("%#v: not %v", l, want)
		}
	}
}

// P7.3
func TestClip(t *testing.T) {
	l := []api.Event{at(5, 9), at(1, 3), at(3, 5), at(5, 5), at(1, 3), at(3, 12), at(9, 12)}
	for _, x := range []struct {
		from, to int
		want     []api.Event
	}{
		{0, 20, l}, {1, 12, l}, {3, 9, []api.Event{at(5, 9), at(3, 5), at(5, 5)}}, {3, 8, []api.Event{at(3, 5), at(5, 5)}}, {4, 9, []api.Event{at(5, 9), at(5, 5)}}, {1, 3, []api.Event{at(1, 3), at(1, 3)}},
		{5, 5, []api.Event{at(5, 5)}}, {2, 4, nil}, {9, 5, nil}, {13, 20, nil}, {0, 0, nil}, {math.MinInt, math.MaxInt, l}, {math.MaxInt, math.MinInt, nil}, {-7, 3, []api.Event{at(1, 3), at(1, 3)}}, {9, math.MaxInt, []api.Event{at(9, 12)}},
	} {
		if r := event.Clip(l, api.Span{From: x.from, To: x.to}); !slices.Equal(r, x.want) {
			t.Errorf("%d to %d: %#v", x.from, x.to, r)
		}
	}
	for _, l := range [][]api.Event{nil, {}} {
		if r := event.Clip(l, api.Span{From: 0, To: 9}); len(r) != 0 {
			t.Errorf("%#v", r)
		}
	}
	// The other fields do not matter.
	whole := all()
	if r := event.Clip(whole, api.Span{From: math.MinInt, To: math.MaxInt}); !slices.Equal(r, whole) {
		t.Errorf("%d of %d events", len(r), len(whole))
	}
}

// P7.3
func TestClipOfAnyNumbers(t *testing.T) {
	numbers := []int{math.MinInt, math.MinInt + 1, -1 << 40, -2, -1, 0, 1, 2, 5, 6, api.MaxTime - 1, api.MaxTime, api.MaxTime + 1, math.MaxInt - 1, math.MaxInt}
	var l []api.Event
	for _, b := range numbers {
		for _, a := range numbers {
			l = append(l, at(a, b))
		}
	}
	for _, from := range numbers {
		for _, to := range numbers {
			var want []api.Event
			for _, e := range l {
				if !(e.From < from) && !(e.To > to) {
					want = append(want, e)
				}
			}
			if r := event.Clip(l, api.Span{From: from, To: to}); !slices.Equal(r, want) {
				t.Errorf("%d to %d: %#v", from, to, r)
			}
		}
	}
}

// P7.3
func TestCore(t *testing.T) {
	for _, e := range all() {
		if c := event.Core(e); c != ev(e.Kind, 0, 0, e.Value, e.Aux, e.Data, e.Fault) {
			t.Errorf("%s: %s", brief(e), brief(c))
		}
	}
	if c := event.Core(ev(7, 1, 2, 3, 4, "5", 6)); c != ev(7, 0, 0, 3, 4, "5", 6) {
		t.Errorf("%#v", c)
	}
}

// P7.4
func TestShift(t *testing.T) {
	const end = api.MaxTime
	full := ev(8, 4, 9, -5, 6, "\n\xff", 12)
	for _, x := range []struct {
		l    []api.Event
		by   int
		want []api.Event
	}{
		{nil, 0, nil}, {nil, 5, nil}, {[]api.Event{}, -5, nil}, {nil, math.MaxInt, nil}, {nil, math.MinInt, nil}, {[]api.Event{full}, 0, []api.Event{full}}, {[]api.Event{full}, 7, []api.Event{ev(8, 11, 16, -5, 6, "\n\xff", 12)}},
		{[]api.Event{full}, -4, []api.Event{ev(8, 0, 5, -5, 6, "\n\xff", 12)}}, {[]api.Event{at(0, 4)}, end - 4, []api.Event{at(end-4, end)}}, {[]api.Event{at(end, end)}, -end, []api.Event{at(0, 0)}}, {[]api.Event{at(0, 0)}, end, []api.Event{at(end, end)}}, {[]api.Event{at(0, end)}, 0, []api.Event{at(0, end)}},
		{[]api.Event{at(7, 9), at(3, 4), at(7, 9), at(5, 5)}, -3, []api.Event{at(4, 6), at(0, 1), at(4, 6), at(2, 2)}}, {[]api.Event{at(7, end-3), at(3, 4), at(0, 0)}, 3, []api.Event{at(10, end), at(6, 7), at(3, 3)}},
	} {
		if r, e := event.Shift(x.l, x.by); !slices.Equal(r, x.want) || e != api.OK {
			t.Errorf("%#v by %d: %#v %v", x.l, x.by, r, e)
		}
	}
}

// P7.4
func TestShiftOutOfRange(t *testing.T) {
	const end = api.MaxTime
	for _, x := range []struct {
		e   api.Event
		bys []int
	}{
		{at(0, 4), []int{-1, -2, -4, -5, end - 3, end, end + 1}}, {at(5, 5), []int{-6, -7, end - 4, end}}, {at(0, end), []int{1, -1, 2, -end, end}}, {at(end, end), []int{1, 2, end, -end - 1}}, {at(0, 0), []int{-1, end + 1}}, {at(5, 9), []int{-9, -6, -7, -8, end - 8, end - 5, end - 6}}, {at(3, end-1), []int{2, 3, -4}},
	} {
		for _, by := range append(x.bys, math.MinInt, math.MinInt+1, -1<<62, -1<<41, 1<<41, 1<<62, math.MaxInt-end, math.MaxInt-end+1, math.MaxInt-1, math.MaxInt) {
			for _, l := range [][]api.Event{{x.e}, {at(end/2, end/2), x.e}, {x.e, at(end/2, end/2)}, {x.e, x.e}} {
				if r, e := event.Shift(l, by); len(r) != 0 || e != api.ErrRange {
					t.Errorf("%#v by %d: %#v %v", l, by, r, e)
				}
			}
		}
	}
}

// P7.4
func TestShiftOfInvalidEvents(t *testing.T) {
	for _, x := range wrong() {
		// The event that is not valid is named first, wherever it is; shifting may make it valid or not.
		for _, by := range []int{0, 1, -1, 5, -5, 1 << 41, math.MinInt, math.MaxInt} {
			for _, l := range [][]api.Event{{x}, {x, at(3, 9)}, {at(3, 9), x}, {at(0, 0), at(3, 9), x, at(0, api.MaxTime)}} {
				if r, e := event.Shift(l, by); len(r) != 0 || e != api.ErrArg {
					t.Errorf("%s by %d: %s %v", brief(l), by, brief(r), e)
				}
			}
		}
	}
}

// P7.4
func TestShiftOfPairs(t *testing.T) {
	const end = api.MaxTime
	times := []int{0, 1, 2, 3, end - 3, end - 2, end - 1, end}
	for _, a := range times {
		for _, b := range times {
			for _, by := range []int{-end - 1, -end, 1 - end, 2 - end, -4, -3, -2, -1, 0, 1, 2, 3, 4, end - 2, end - 1, end, end + 1} {
				l := []api.Event{at(min(a, b), max(a, b)), at(b, b)}
				want := []api.Event{at(l[0].From+by, l[0].To+by), at(b+by, b+by)}
				e := api.OK
				if l[0].From+by < 0 || l[0].To+by > end {
					want, e = nil, api.ErrRange
				}
				if r, f := event.Shift(l, by); !slices.Equal(r, want) || f != e {
					t.Errorf("%#v by %d: %#v %v", l, by, r, f)
				}
			}
		}
	}
}

// P7.8
func TestShiftAndBack(t *testing.T) {
	r := rand.New(rand.NewSource(78))
	done := 0
	for range 20000 {
		l := some(r, 4, valid)
		by := (r.Intn(api.MaxTime+1) >> r.Intn(41)) * (1 - 2*r.Intn(2))
		shifted, e := event.Shift(l, by)
		if e != api.OK {
			continue
		}
		done++
		if back, e := event.Shift(shifted, -by); !slices.Equal(back, l) || e != api.OK {
			t.Errorf("%#v by %d: %#v %v", l, by, back, e)
		}
	}
	if done < 5000 {
		t.Errorf("only %d lists", done)
	}
}

// P7.2, P7.3, P7.4
func TestArgumentsAreKept(t *testing.T) {
	memory := []api.Event{at(9, 9), at(5, 7), at(6, 8), at(1, 2), at(3, 4)}
	before := slices.Clone(memory)
	for n := range len(memory) + 1 {
		// The list has more capacity than elements.
		l := memory[:n]
		sorted, clipped := event.Sort(l), event.Clip(l, api.Span{From: 0, To: 99})
		shifted, _ := event.Shift(l, 3)
		still, _ := event.Shift(l, 0)
		event.Ordered(l)
		if !slices.Equal(memory, before) {
			t.Errorf("%#v, not %#v", memory, before)
		}
		for _, result := range [][]api.Event{sorted, clipped, shifted, still} {
			if len(result) != n {
				t.Errorf("%d events of %d", len(result), n)
			}
			// The results share no memory with the argument, not even that beyond their ends.
			clear(result[:cap(result)])
		}
		if !slices.Equal(memory, before) {
			t.Errorf("%#v, not %#v, after a result was changed", memory, before)
		}
	}
}
