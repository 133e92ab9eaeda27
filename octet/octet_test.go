package octet_test

import (
	"bytes"
	"math"
	"math/big"
	"strings"
	"testing"

	"signalbench/api"
	"signalbench/octet"
)

// numbers returns the unsigned numbers at which the encoding changes its length, with their neighbours, and some between them.
func numbers() []uint64 {
	l := []uint64{0, 1, 2, 3, 5, 127, 300, 1000000, 0x0123456789abcdef, 0xaaaaaaaaaaaaaaaa, 0x5555555555555555, math.MaxUint64 - 1, math.MaxUint64}
	for shift := 1; shift < 64; shift++ {
		l = append(l, 1<<shift-1, 1<<shift, 1<<shift+1)
	}
	return l
}

// integers returns the integers whose encodings are those of numbers.
func integers() []int {
	l := []int{0, 1, -1, 2, -2, math.MaxInt, math.MaxInt - 1, math.MinInt, math.MinInt + 1}
	for shift := 1; shift < 63; shift++ {
		for _, n := range []int{1<<shift - 1, 1 << shift, 1<<shift + 1} {
			l = append(l, n, -n)
		}
	}
	return l
}

func texts() []string {
	return []string{"", "a", "ab", "\x00", "\x80\x80", "\xff", "\xc3\x28", "é", strings.Repeat("x", 126), strings.Repeat("x", 127), strings.Repeat("y", 128), strings.Repeat("z\x00\xff", 6000)}
}

// encoding returns the encoding of a number as it is defined: its groups of seven bits, the lowest first.
func encoding(n *big.Int) string {
	rest, group := new(big.Int).Set(n), new(big.Int)
	var b []byte
	for len(b) == 0 || rest.Sign() > 0 {
		rest.DivMod(rest, big.NewInt(128), group)
		b = append(b, byte(group.Int64())+128)
	}
	b[len(b)-1] -= 128
	return string(b)
}

func ofUint(n uint64) string { return encoding(new(big.Int).SetUint64(n)) }

func ofInt(n int) string {
	twice := new(big.Int).Mul(big.NewInt(2), big.NewInt(int64(n)))
	if n < 0 {
		twice.Neg(twice).Sub(twice, big.NewInt(1))
	}
	return encoding(twice)
}

func ofText(s string) string { return ofUint(uint64(len(s))) + s }

// P2.1
func TestPutUint(t *testing.T) {
	for _, x := range []struct {
		n    uint64
		want string
	}{
		{0, "\x00"}, {1, "\x01"}, {127, "\x7f"}, {128, "\x80\x01"}, {255, "\xff\x01"}, {256, "\x80\x02"}, {300, "\xac\x02"},
		{1<<14 - 1, "\xff\x7f"}, {1 << 14, "\x80\x80\x01"},
		{1<<63 - 1, "\xff\xff\xff\xff\xff\xff\xff\xff\x7f"},
		{1 << 63, "\x80\x80\x80\x80\x80\x80\x80\x80\x80\x01"},
		{math.MaxUint64, "\xff\xff\xff\xff\xff\xff\xff\xff\xff\x01"},
	} {
		if b := octet.PutUint(nil, x.n); string(b) != x.want {
			t.Error(x.n, b)
		}
	}
	for _, n := range numbers() {
		if b := octet.PutUint([]byte("pre"), n); string(b) != "pre"+ofUint(n) {
			t.Error(n, b)
		}
	}
}

// P2.1
func TestPutInt(t *testing.T) {
	for _, x := range []struct {
		n    int
		want string
	}{
		{0, "\x00"}, {-1, "\x01"}, {1, "\x02"}, {-2, "\x03"}, {63, "\x7e"}, {-64, "\x7f"}, {64, "\x80\x01"}, {-65, "\x81\x01"},
		{math.MaxInt, "\xfe\xff\xff\xff\xff\xff\xff\xff\xff\x01"},
		{math.MinInt, "\xff\xff\xff\xff\xff\xff\xff\xff\xff\x01"},
	} {
		if b := octet.PutInt(nil, x.n); string(b) != x.want {
			t.Error(x.n, b)
		}
	}
	for _, n := range integers() {
		if b := octet.PutInt([]byte("pre"), n); string(b) != "pre"+ofInt(n) {
			t.Error(n, b)
		}
	}
}

// P2.1
func TestPutText(t *testing.T) {
	if b := octet.PutText(nil, "ab"); string(b) != "\x02ab" {
		t.Error(b)
	}
	if b := octet.PutText(nil, ""); string(b) != "\x00" {
		t.Error(b)
	}
	if b := octet.PutText(nil, strings.Repeat("x", 128)); string(b) != "\x80\x01"+strings.Repeat("x", 128) {
		t.Error(b)
	}
	for _, s := range texts() {
		if b := octet.PutText([]byte("pre"), s); string(b) != "pre"+ofText(s) {
			t.Errorf("%q: %q", s, b)
		}
	}
}

// puts returns calls of each function that append one byte and several.
func puts() map[string]func([]byte) []byte {
	return map[string]func([]byte) []byte{
		"PutUint 0":    func(b []byte) []byte { return octet.PutUint(b, 0) },
		"PutUint 300":  func(b []byte) []byte { return octet.PutUint(b, 300) },
		"PutUint max":  func(b []byte) []byte { return octet.PutUint(b, math.MaxUint64) },
		"PutInt -1":    func(b []byte) []byte { return octet.PutInt(b, -1) },
		"PutInt 1":     func(b []byte) []byte { return octet.PutInt(b, 1) },
		"PutInt min":   func(b []byte) []byte { return octet.PutInt(b, math.MinInt) },
		"PutText":      func(b []byte) []byte { return octet.PutText(b, "ab") },
		"PutText none": func(b []byte) []byte { return octet.PutText(b, "") },
	}
}

// P2.1: neither the bytes of the argument nor the memory behind them are written.
func TestPutLeavesItsArgument(t *testing.T) {
	for name, put := range puts() {
		for length := 0; length <= 40; length++ {
			whole := bytes.Repeat([]byte{'-'}, 40)
			r := put(whole[:length])
			if string(whole) != strings.Repeat("-", 40) {
				t.Error(name, length, "wrote to its argument", whole)
			}
			if !strings.HasPrefix(string(r), strings.Repeat("-", length)) {
				t.Error(name, length, "lost its argument", r)
			}
			for i := range r {
				r[i] = '+'
			}
			if string(whole) != strings.Repeat("-", 40) {
				t.Error(name, length, "returned memory of its argument")
			}
		}
	}
}

// P2.1: what was appended to one slice is not overwritten by what is appended to it later.
func TestPutTwice(t *testing.T) {
	for name, put := range puts() {
		for _, length := range []int{0, 1, 5, 8, 100} {
			b := octet.PutText(nil, strings.Repeat("-", length))
			first := put(b)
			kept := string(first)
			second := octet.PutText(b, "something else")
			if string(first) != kept || !strings.HasSuffix(string(second), "\x0esomething else") {
				t.Error(name, length, first, second)
			}
		}
	}
}

func TestPutToNilAndToEmpty(t *testing.T) {
	for name, put := range puts() {
		if !bytes.Equal(put(nil), put([]byte{})) || !bytes.Equal(put(nil), put(make([]byte, 0, 64))) {
			t.Error(name)
		}
	}
}

// read returns what TakeUint promises for the string s and the index 0. It is written by the forms of
// the strings: the bytes up to the first one below 128 must be the encoding of a number of 64 bits.
func read(s string) (uint64, int, api.Errno) {
	end := strings.IndexFunc(s, func(r rune) bool { return r < 128 })
	if end >= 0 && end < 10 {
		n := new(big.Int)
		for i := end; i >= 0; i-- {
			n.Mul(n, big.NewInt(128)).Add(n, big.NewInt(int64(s[i]%128)))
		}
		if n.BitLen() <= 64 && encoding(n) == s[:end+1] {
			return n.Uint64(), end + 1, api.OK
		}
		return 0, 0, api.ErrSyntax
	}
	if len(s) < 10 {
		return 0, 0, api.ErrTruncated
	}
	return 0, 0, api.ErrSyntax
}

// forms returns all strings of at most two bytes, and longer ones of bytes at the bounds.
func forms() []string {
	l := []string{""}
	for a := range 256 {
		l = append(l, string([]byte{byte(a)}))
		for b := range 256 {
			l = append(l, string([]byte{byte(a), byte(b)}))
		}
	}
	tails := []string{""}
	for range 4 {
		var longer []string
		for _, s := range tails {
			for _, c := range []string{"\x00", "\x01", "\x02", "\x7f", "\x80", "\x81", "\xff"} {
				longer = append(longer, s+c)
			}
		}
		tails = longer
		for _, s := range tails {
			for length := range 12 {
				l = append(l, strings.Repeat("\x80", length)+s, strings.Repeat("\xff", length)+s)
			}
		}
	}
	return l
}

// P2.2
func TestTakeUint(t *testing.T) {
	nine := "\x80\x80\x80\x80\x80\x80\x80\x80\x80"
	for _, x := range []struct {
		b    string
		at   int
		n    uint64
		next int
		e    api.Errno
	}{
		{"\x00", 0, 0, 1, api.OK},
		{"\x7f\x7f", 0, 127, 1, api.OK},
		{"\xac\x02", 0, 300, 2, api.OK},
		{"\xac\x02", 1, 2, 2, api.OK},
		{"ab\xac\x02cd", 2, 300, 4, api.OK},
		{"\x80\x80\x01", 0, 1 << 14, 3, api.OK},
		{nine + "\x01", 0, 1 << 63, 10, api.OK},
		{nine + "\x01\x01", 0, 1 << 63, 10, api.OK},
		{"\xff\xff\xff\xff\xff\xff\xff\xff\xff\x01", 0, math.MaxUint64, 10, api.OK},
		{"", 0, 0, 0, api.ErrTruncated},
		{"\x00", 1, 0, 0, api.ErrTruncated},
		{"\x80", 0, 0, 0, api.ErrTruncated},
		{"\x80\x80", 1, 0, 0, api.ErrTruncated},
		{nine, 0, 0, 0, api.ErrTruncated},
		{"\x80\x00", 0, 0, 0, api.ErrSyntax},
		{"\x81\x00", 0, 0, 0, api.ErrSyntax},
		{"\x80\x80\x00", 0, 0, 0, api.ErrSyntax},
		{nine + "\x00", 0, 0, 0, api.ErrSyntax},
		{nine + "\x02", 0, 0, 0, api.ErrSyntax},
		{nine + "\x80", 0, 0, 0, api.ErrSyntax},
		{nine + "\x81", 0, 0, 0, api.ErrSyntax},
		{nine + "\xff\xff", 0, 0, 0, api.ErrSyntax},
		{nine + nine, 0, 0, 0, api.ErrSyntax},
		{"", 1, 0, 0, api.ErrArg},
		{"", -1, 0, 0, api.ErrArg},
		{"\x00", 2, 0, 0, api.ErrArg},
		{"\x00", -1, 0, 0, api.ErrArg},
		{"\x00", math.MinInt, 0, 0, api.ErrArg},
		{"\x00", math.MaxInt, 0, 0, api.ErrArg},
	} {
		if n, next, e := octet.TakeUint(x.b, x.at); n != x.n || next != x.next || e != x.e {
			t.Errorf("%q %d: %d %d %v", x.b, x.at, n, next, e)
		}
	}
}

func TestTakeUintOfAllForms(t *testing.T) {
	for _, s := range forms() {
		want, end, f := read(s)
		if n, next, e := octet.TakeUint(s, 0); n != want || next != end || e != f {
			t.Fatalf("%q: %d %d %v", s, n, next, e)
		}
		if f == api.OK {
			end += 3
		}
		if n, next, e := octet.TakeUint("\x80\xff\x80"+s, 3); n != want || next != end || e != f {
			t.Fatalf("%q at 3: %d %d %v", s, n, next, e)
		}
	}
}

// P2.3
func TestTakeInt(t *testing.T) {
	for _, x := range []struct {
		b    string
		at   int
		n    int
		next int
		e    api.Errno
	}{
		{"\x00", 0, 0, 1, api.OK},
		{"\x01", 0, -1, 1, api.OK},
		{"\x02", 0, 1, 1, api.OK},
		{"\x7e", 0, 63, 1, api.OK},
		{"\x7f", 0, -64, 1, api.OK},
		{"ab\x81\x01c", 2, -65, 4, api.OK},
		{"\xfe\xff\xff\xff\xff\xff\xff\xff\xff\x01", 0, math.MaxInt, 10, api.OK},
		{"\xff\xff\xff\xff\xff\xff\xff\xff\xff\x01", 0, math.MinInt, 10, api.OK},
		{"", 0, 0, 0, api.ErrTruncated},
		{"\x81", 0, 0, 0, api.ErrTruncated},
		{"\x81\x00", 0, 0, 0, api.ErrSyntax},
		{"\xff\xff\xff\xff\xff\xff\xff\xff\xff\x03", 0, 0, 0, api.ErrSyntax},
		{"\x01", 2, 0, 0, api.ErrArg},
		{"\x01", -1, 0, 0, api.ErrArg},
		{"\x01", math.MinInt, 0, 0, api.ErrArg},
		{"\x01", math.MaxInt, 0, 0, api.ErrArg},
	} {
		if n, next, e := octet.TakeInt(x.b, x.at); n != x.n || next != x.next || e != x.e {
			t.Errorf("%q %d: %d %d %v", x.b, x.at, n, next, e)
		}
	}
	for _, n := range integers() {
		b := ofInt(n)
		if got, next, e := octet.TakeInt(b, 0); got != n || next != len(b) || e != api.OK {
			t.Error(n, got, next, e)
		}
	}
	for _, s := range forms() {
		if n, next, e := octet.TakeInt(s, 0); e != api.OK {
			if _, _, f := read(s); n != 0 || next != 0 || e != f {
				t.Fatalf("%q: %d %d %v", s, n, next, e)
			}
		}
	}
}

// length is an encoded length and what is after it, as TakeText and TakeCount read them.
type length struct {
	b        string
	at, most int
	n, next  int
	e        api.Errno
}

// lengths returns cases that TakeText and TakeCount treat alike; next is the index after the number.
func lengths() []length {
	great, greatest, beyond := ofUint(math.MaxInt), ofUint(math.MaxUint64), ofUint(1<<63)
	return []length{
		{"\x00", 0, 0, 0, 1, api.OK},
		{"\x00", 0, math.MaxInt, 0, 1, api.OK},
		{"\x02ab", 0, 2, 2, 1, api.OK},
		{"\x02abc", 0, 2, 2, 1, api.OK},
		{"\x02ab", 0, math.MaxInt, 2, 1, api.OK},
		{"xy\x02ab", 2, 2, 2, 3, api.OK},
		{"\x80\x01" + strings.Repeat("q", 128), 0, 128, 128, 2, api.OK},
		{"\x02ab", 0, 1, 0, 0, api.ErrLimit},
		{"\x02ab", 0, 0, 0, 0, api.ErrLimit},
		{"\x02ab", 0, -1, 0, 0, api.ErrLimit},
		{"\x00", 0, -1, 0, 0, api.ErrLimit},
		{"\x00", 0, math.MinInt, 0, 0, api.ErrLimit},
		{"\x03ab", 0, 2, 0, 0, api.ErrLimit},
		{"\x80\x01" + strings.Repeat("q", 128), 0, 127, 0, 0, api.ErrLimit},
		{beyond + "ab", 0, math.MaxInt, 0, 0, api.ErrLimit},
		{greatest + "ab", 0, math.MaxInt, 0, 0, api.ErrLimit},
		{greatest + "ab", 0, -1, 0, 0, api.ErrLimit},
		{"\x03ab", 0, 3, 0, 0, api.ErrTruncated},
		{"\x03ab", 0, math.MaxInt, 0, 0, api.ErrTruncated},
		{"\x01", 0, 1, 0, 0, api.ErrTruncated},
		{"abc\x01", 3, 1, 0, 0, api.ErrTruncated},
		{"\x80\x01" + strings.Repeat("q", 127), 0, 128, 0, 0, api.ErrTruncated},
		{great, 0, math.MaxInt, 0, 0, api.ErrTruncated},
		{great + "ab", 0, math.MaxInt, 0, 0, api.ErrTruncated},
		{"abc" + great + "ab", 3, math.MaxInt, 0, 0, api.ErrTruncated},
		{"", 0, 5, 0, 0, api.ErrTruncated},
		{"\x80", 0, 5, 0, 0, api.ErrTruncated},
		{"\x80", 0, -1, 0, 0, api.ErrTruncated},
		{"\x80\x00", 0, 5, 0, 0, api.ErrSyntax},
		{"\x80\x00", 0, -1, 0, 0, api.ErrSyntax},
		{"", 1, 5, 0, 0, api.ErrArg},
		{"\x00", 2, 5, 0, 0, api.ErrArg},
		{"\x00", -1, 5, 0, 0, api.ErrArg},
		{"\x00", math.MinInt, -1, 0, 0, api.ErrArg},
		{"\x00", math.MaxInt, -1, 0, 0, api.ErrArg},
	}
}

// P2.4
func TestTakeText(t *testing.T) {
	for _, x := range lengths() {
		s, next, e := octet.TakeText(x.b, x.at, x.most)
		if s != x.b[x.next:x.next+x.n] || next != x.next+x.n || e != x.e {
			t.Errorf("%q %d %d: %q %d %v", x.b, x.at, x.most, s, next, e)
		}
	}
	for _, s := range texts() {
		if got, next, e := octet.TakeText(ofText(s), 0, len(s)); got != s || next != len(ofText(s)) || e != api.OK {
			t.Errorf("%q: %q %d %v", s, got, next, e)
		}
		if got, next, e := octet.TakeText(ofText(s), 0, len(s)-1); got != "" || next != 0 || e != api.ErrLimit {
			t.Errorf("%q: %q %d %v", s, got, next, e)
		}
	}
}

// P2.5
func TestTakeCount(t *testing.T) {
	for _, x := range lengths() {
		if n, next, e := octet.TakeCount(x.b, x.at, x.most); n != x.n || next != x.next || e != x.e {
			t.Errorf("%q %d %d: %d %d %v", x.b, x.at, x.most, n, next, e)
		}
	}
}

// P2.4, P2.5: for all forms, a limit and a remainder around the number.
func TestLengthsOfAllForms(t *testing.T) {
	for _, b := range forms() {
		u, next, f := read(b)
		for _, most := range []int{-1, 0, 1, 2, 127, 128, math.MaxInt} {
			n, end, want := 0, 0, f
			switch {
			case f != api.OK:
			case most < 0 || new(big.Int).SetUint64(u).Cmp(big.NewInt(int64(most))) > 0:
				want = api.ErrLimit
			case new(big.Int).SetUint64(u).Cmp(big.NewInt(int64(len(b)-next))) > 0:
				want = api.ErrTruncated
			default:
				n, end = int(u), next
			}
			if got, after, e := octet.TakeCount(b, 0, most); got != n || after != end || e != want {
				t.Fatalf("TakeCount %q %d: %d %d %v", b, most, got, after, e)
			}
			if got, after, e := octet.TakeText(b, 0, most); got != b[end:end+n] || after != end+n || e != want {
				t.Fatalf("TakeText %q %d: %q %d %v", b, most, got, after, e)
			}
		}
	}
}

// following returns what may follow an encoding.
func following() []string {
	return []string{"", "\x00", "\x01", "\x7f", "\x80", "\xff", "\x80\x00", "\xff\xff\xff\xff\xff\xff\xff\xff\xff\xff\xff", "text"}
}

// P2.6
func TestPutIsReadBack(t *testing.T) {
	for _, tail := range following() {
		for _, before := range following() {
			at := len(before)
			for _, n := range numbers() {
				b := octet.PutUint([]byte(before), n)
				if got, next, e := octet.TakeUint(string(b)+tail, at); got != n || next != len(b) || e != api.OK {
					t.Fatal(n, got, next, e)
				}
			}
			for _, n := range integers() {
				b := octet.PutInt([]byte(before), n)
				if got, next, e := octet.TakeInt(string(b)+tail, at); got != n || next != len(b) || e != api.OK {
					t.Fatal(n, got, next, e)
				}
			}
			for _, s := range texts() {
				b := octet.PutText([]byte(before), s)
				if got, next, e := octet.TakeText(string(b)+tail, at, len(s)); got != s || next != len(b) || e != api.OK {
					t.Fatalf("%q: %q %d %v", s, got, next, e)
				}
			}
		}
	}
}

// P2.6: one buffer holds all kinds of encodings, one after the other.
func TestPutInSuccession(t *testing.T) {
	var b []byte
	for i, s := range texts() {
		b = octet.PutInt(octet.PutText(octet.PutUint(b, numbers()[i]), s), integers()[i])
	}
	b = octet.PutUint(b, 3)
	b = append(b, "abc"...)
	at, all := 0, string(b)
	for i, s := range texts() {
		n, next, e := octet.TakeUint(all, at)
		if n != numbers()[i] || e != api.OK {
			t.Fatal(i, n, e)
		}
		got, next, e := octet.TakeText(all, next, math.MaxInt)
		if got != s || e != api.OK {
			t.Fatalf("%d %q %v", i, got, e)
		}
		m, next, e := octet.TakeInt(all, next)
		if m != integers()[i] || e != api.OK {
			t.Fatal(i, m, e)
		}
		at = next
	}
	if n, next, e := octet.TakeCount(all, at, 3); n != 3 || all[next:] != "abc" || e != api.OK {
		t.Fatal(n, next, e)
	}
}

// P2.7
func TestTakenNumberHasOneEncoding(t *testing.T) {
	accepted := 0
	for _, s := range forms() {
		n, next, e := octet.TakeUint(s, 0)
		if e != api.OK {
			continue
		}
		accepted++
		if string(octet.PutUint(nil, n)) != s[:next] {
			t.Fatalf("%q: %d", s, n)
		}
		m, next, e := octet.TakeInt(s, 0)
		if e != api.OK || string(octet.PutInt(nil, m)) != s[:next] {
			t.Fatalf("%q: %d %v", s, m, e)
		}
	}
	if accepted == 0 {
		t.Error("no number was accepted")
	}
}
