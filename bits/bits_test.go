package bits_test

import (
	"math"
	"math/big"
	"slices"
	"strconv"
	"strings"
	"testing"

	"signalbench/api"
	"signalbench/bits"
)

// mostBytes is the number of bytes whose bits are the longest sequence.
const mostBytes = api.MaxBits / 8

// orders returns the values of msb.
func orders() []bool { return []bool{true, false} }

// short returns all sequences of at most 12 bits.
func short() []string {
	l := []string{""}
	for first, length := 0, 0; length < 12; length++ {
		end := len(l)
		for _, s := range l[first:end] {
			l = append(l, s+"0", s+"1")
		}
		first = end
	}
	return l
}

// long returns longer sequences: at the limits, and at the ends of numbers and bytes.
func long() []string {
	var l []string
	for _, length := range []int{16, 61, 62, 63, 64, 65, 255, 256, 4096, api.MaxBits - 8, api.MaxBits - 1, api.MaxBits} {
		l = append(l, strings.Repeat("0", length), strings.Repeat("1", length),
			"1"+strings.Repeat("0", length-1), strings.Repeat("0", length-1)+"1",
			strings.Repeat("1101000", length)[:length])
	}
	return l
}

// invalid returns strings that are not sequences of bits.
func invalid() []string {
	l := []string{
		// One too long, and much too long.
		strings.Repeat("0", api.MaxBits+1), strings.Repeat("1", api.MaxBits+8), strings.Repeat("10", api.MaxBits),
		// Only the last character of the longest sequence is wrong.
		strings.Repeat("1", api.MaxBits-1) + "2",
		// Characters whose lowest byte is that of 0 or 1, and digits of other scripts.
		"\u0130", "\u0131", "\u3030", "\uff10", "\uff11", "\u0660",
	}
	for c := range 256 {
		if c != '0' && c != '1' {
			wrong := string([]byte{byte(c)})
			l = append(l, wrong, wrong+"0", "1"+wrong, "01"+wrong, "0000000"+wrong, wrong+"1111111",
				"0110"+wrong+"110", strings.Repeat("1", 62)+wrong, strings.Repeat("01", 100)+wrong)
		}
	}
	return l
}

// written returns the width lowest bits of n as they are defined: those of the remainder of n modulo 2^width.
func written(n, width int, msb bool) string {
	modulus := new(big.Int).Lsh(big.NewInt(1), uint(width))
	rest := new(big.Int).Mod(big.NewInt(int64(n)), modulus)
	s := ""
	for i := range width {
		s = strconv.Itoa(int(rest.Bit(i))) + s
	}
	if !msb {
		s = backwards(s)
	}
	return s
}

// read returns the number whose bits are s.
func read(s string, msb bool) int {
	if !msb {
		s = backwards(s)
	}
	n, _ := new(big.Int).SetString("0"+s, 2)
	return int(n.Int64())
}

func backwards(s string) string {
	b := []byte(s)
	slices.Reverse(b)
	return string(b)
}

// everyByte returns strings of bytes of several lengths, all bytes among them.
func everyByte() []string {
	all := make([]byte, 256)
	for i := range all {
		all[i] = byte(i)
	}
	l := []string{"", "\x00", "\xff", "\x01\x80", "\x80\x01", "é", "\xc3\x28", string(all), strings.Repeat(string(all), mostBytes/256)}
	for c := range 256 {
		l = append(l, string([]byte{byte(c)}), string([]byte{byte(c), 5}), string([]byte{'a', byte(c)}))
	}
	return l
}

// numbers returns integers of both signs at the powers of two, and some between them.
func numbers() []int {
	l := []int{0, 1, -1, 5, -5, 0x0123456789abcdef, -0x0123456789abcdef, 0x2aaaaaaaaaaaaaaa, math.MaxInt, math.MaxInt - 1, math.MinInt, math.MinInt + 1}
	for shift := 1; shift < 63; shift++ {
		for _, n := range []int{1<<shift - 1, 1 << shift, 1<<shift + 1} {
			l = append(l, n, -n)
		}
	}
	return l
}

// P3.1
func TestValid(t *testing.T) {
	for _, s := range slices.Concat(short(), long()) {
		if !bits.Valid(s) {
			t.Errorf("not valid: %d characters %.70q", len(s), s)
		}
	}
	for _, s := range invalid() {
		if bits.Valid(s) {
			t.Errorf("valid: %d characters %.70q", len(s), s)
		}
	}
}

// P3.2
func TestFromInt(t *testing.T) {
	for _, x := range []struct {
		n, width int
		msb      bool
		want     string
	}{
		{5, 8, false, "10100000"}, {5, 8, true, "00000101"}, {-1, 3, true, "111"}, {-1, 3, false, "111"},
		{6, 3, true, "110"}, {6, 3, false, "011"}, {6, 2, true, "10"}, {6, 2, false, "01"}, {6, 1, true, "0"}, {7, 1, false, "1"},
		{-2, 4, true, "1110"}, {-2, 4, false, "0111"}, {-8, 3, true, "000"}, {256, 8, true, "00000000"}, {257, 8, true, "00000001"},
		{5, 0, true, ""}, {5, 0, false, ""}, {-1, 0, true, ""}, {5, -1, true, ""}, {5, -8, false, ""},
		{5, 63, true, ""}, {5, 63, false, ""}, {5, 64, true, ""}, {-1, 65, false, ""}, {5, 1 << 40, true, ""},
		{5, math.MaxInt, true, ""}, {5, math.MaxInt, false, ""}, {5, math.MinInt, true, ""}, {5, math.MinInt, false, ""},
		{1<<62 - 1, 62, true, strings.Repeat("1", 62)}, {-1, 62, false, strings.Repeat("1", 62)},
		{1 << 61, 62, true, "1" + strings.Repeat("0", 61)}, {1 << 61, 62, false, strings.Repeat("0", 61) + "1"},
		{1 << 62, 62, true, strings.Repeat("0", 62)}, {math.MinInt, 62, true, strings.Repeat("0", 62)}, {math.MaxInt, 62, true, strings.Repeat("1", 62)},
	} {
		if s := bits.FromInt(x.n, x.width, x.msb); s != x.want {
			t.Error(x.n, x.width, x.msb, s)
		}
	}
	for _, n := range numbers() {
		for width := range 63 {
			for _, msb := range orders() {
				if s := bits.FromInt(n, width, msb); s != written(n, width, msb) {
					t.Error(n, width, msb, s)
				}
			}
		}
	}
}

// P3.3
func TestInt(t *testing.T) {
	for _, x := range []struct {
		s    string
		msb  bool
		want int
		e    api.Errno
	}{
		{"011", true, 3, api.OK}, {"011", false, 6, api.OK}, {"", true, 0, api.OK}, {"", false, 0, api.OK},
		{"0", true, 0, api.OK}, {"1", false, 1, api.OK}, {"0001", true, 1, api.OK}, {"0001", false, 8, api.OK},
		{strings.Repeat("1", 62), true, 1<<62 - 1, api.OK}, {strings.Repeat("1", 62), false, 1<<62 - 1, api.OK},
		{"1" + strings.Repeat("0", 61), true, 1 << 61, api.OK}, {"1" + strings.Repeat("0", 61), false, 1, api.OK},
		{"012", true, 0, api.ErrSyntax}, {"012", false, 0, api.ErrSyntax},
		{strings.Repeat("0", 63), true, 0, api.ErrLimit}, {strings.Repeat("0", 63), false, 0, api.ErrLimit},
		{strings.Repeat("1", 64), true, 0, api.ErrLimit}, {strings.Repeat("1", api.MaxBits), false, 0, api.ErrLimit},
		{strings.Repeat("1", 63) + "2", true, 0, api.ErrSyntax}, {strings.Repeat("1", api.MaxBits+1), false, 0, api.ErrSyntax},
	} {
		if n, e := bits.Int(x.s, x.msb); n != x.want || e != x.e {
			t.Errorf("%.70q %v: %d %v", x.s, x.msb, n, e)
		}
	}
	for _, s := range slices.Concat(short(), long()) {
		for _, msb := range orders() {
			want, f := 0, api.ErrLimit
			if len(s) <= 62 {
				want, f = read(s, msb), api.OK
			}
			if n, e := bits.Int(s, msb); n != want || e != f {
				t.Errorf("%d characters %.70q %v: %d %v", len(s), s, msb, n, e)
			}
		}
	}
	for _, s := range invalid() {
		for _, msb := range orders() {
			if n, e := bits.Int(s, msb); n != 0 || e != api.ErrSyntax {
				t.Errorf("%d characters %.70q %v: %d %v", len(s), s, msb, n, e)
			}
		}
	}
}

// P3.4
func TestFromBytes(t *testing.T) {
	for _, x := range []struct {
		b    string
		msb  bool
		want string
	}{
		{"\x01\x80", true, "0000000110000000"}, {"\x01\x80", false, "1000000000000001"},
		{"\x05", false, "10100000"}, {"\x05", true, "00000101"}, {"", true, ""}, {"", false, ""},
		{"\xc3\xa9", true, "1100001110101001"}, {"\xff", false, "11111111"},
	} {
		if s := bits.FromBytes(x.b, x.msb); s != x.want {
			t.Errorf("%q %v: %s", x.b, x.msb, s)
		}
	}
	for _, b := range everyByte() {
		for _, msb := range orders() {
			want := strings.Builder{}
			for i := range len(b) {
				want.WriteString(written(int(b[i]), 8, msb))
			}
			if s := bits.FromBytes(b, msb); s != want.String() {
				t.Errorf("%d bytes %.70q %v: %d characters %.70s", len(b), b, msb, len(s), s)
			}
		}
	}
}

// P3.4
func TestFromBytesAtTheLimit(t *testing.T) {
	for _, msb := range orders() {
		if s := bits.FromBytes(strings.Repeat("\xff", mostBytes), msb); s != strings.Repeat("1", api.MaxBits) {
			t.Error(len(s))
		}
		for _, length := range []int{mostBytes + 1, 2 * mostBytes, api.MaxBits, api.MaxBits + 1} {
			if s := bits.FromBytes(strings.Repeat("\xff", length), msb); s != "" {
				t.Error(length, len(s))
			}
		}
	}
}

// P3.5
func TestBytes(t *testing.T) {
	for _, x := range []struct {
		s    string
		msb  bool
		want string
		e    api.Errno
	}{
		{"0000000110000000", true, "\x01\x80", api.OK}, {"0000000110000000", false, "\x80\x01", api.OK},
		{"", true, "", api.OK}, {"", false, "", api.OK}, {"10100000", true, "\xa0", api.OK}, {"10100000", false, "\x05", api.OK},
		{strings.Repeat("1", api.MaxBits), true, strings.Repeat("\xff", mostBytes), api.OK},
		{"0000000", true, "", api.ErrArg}, {"1", false, "", api.ErrArg}, {"000000000", false, "", api.ErrArg},
		{strings.Repeat("1", api.MaxBits-1), true, "", api.ErrArg},
		{"0000002", true, "", api.ErrSyntax}, {"00000002", false, "", api.ErrSyntax}, {"2", true, "", api.ErrSyntax},
		{strings.Repeat("1", api.MaxBits+1), true, "", api.ErrSyntax}, {strings.Repeat("1", api.MaxBits+8), false, "", api.ErrSyntax},
	} {
		if b, e := bits.Bytes(x.s, x.msb); b != x.want || e != x.e {
			t.Errorf("%.70q %v: %.70q %v", x.s, x.msb, b, e)
		}
	}
	for _, s := range slices.Concat(short(), long()) {
		for _, msb := range orders() {
			want, f := []byte(nil), api.ErrArg
			if len(s)%8 == 0 {
				f = api.OK
				for part := range slices.Chunk([]byte(s), 8) {
					want = append(want, byte(read(string(part), msb)))
				}
			}
			if b, e := bits.Bytes(s, msb); b != string(want) || e != f {
				t.Errorf("%d characters %.70q %v: %.70q %v", len(s), s, msb, b, e)
			}
		}
	}
	for _, s := range invalid() {
		for _, msb := range orders() {
			if b, e := bits.Bytes(s, msb); b != "" || e != api.ErrSyntax {
				t.Errorf("%d characters %.70q %v: %.70q %v", len(s), s, msb, b, e)
			}
		}
	}
}

// P3.6
func TestInvert(t *testing.T) {
	if s := bits.Invert("0010"); s != "1101" {
		t.Error(s)
	}
	for _, s := range slices.Concat(short(), long()) {
		if r := bits.Invert(s); r != strings.NewReplacer("0", "1", "1", "0").Replace(s) {
			t.Errorf("%d characters %.70q: %.70q", len(s), s, r)
		}
	}
	for _, s := range invalid() {
		if r := bits.Invert(s); r != "" {
			t.Errorf("%d characters %.70q: %.70q", len(s), s, r)
		}
	}
}

// P3.6
func TestReverse(t *testing.T) {
	if s := bits.Reverse("0010110"); s != "0110100" {
		t.Error(s)
	}
	for _, s := range slices.Concat(short(), long()) {
		if r := bits.Reverse(s); r != backwards(s) {
			t.Errorf("%d characters %.70q: %.70q", len(s), s, r)
		}
	}
	for _, s := range invalid() {
		if r := bits.Reverse(s); r != "" {
			t.Errorf("%d characters %.70q: %.70q", len(s), s, r)
		}
	}
}

// P3.6
func TestOnes(t *testing.T) {
	for s, want := range map[string]int{"": 0, "0": 0, "1": 1, "00110": 2, "1011": 3, strings.Repeat("1", api.MaxBits): api.MaxBits} {
		if n := bits.Ones(s); n != want {
			t.Errorf("%.70q: %d", s, n)
		}
	}
	for _, s := range slices.Concat(short(), long()) {
		if n := bits.Ones(s); n != strings.Count(s, "1") {
			t.Errorf("%d characters %.70q: %d", len(s), s, n)
		}
	}
	for _, s := range invalid() {
		if n := bits.Ones(s); n != 0 {
			t.Errorf("%d characters %.70q: %d", len(s), s, n)
		}
	}
}

// P3.6
func TestRun(t *testing.T) {
	for _, x := range []struct {
		s        string
		at, want int
	}{
		{"00110", 2, 2}, {"00110", 4, 1}, {"00110", 5, 0}, {"00110", 0, 2}, {"00110", 1, 1}, {"00110", 3, 1}, {"00110", 6, 0}, {"00110", -1, 0},
		{"", 0, 0}, {"", -1, 0}, {"", 1, 0}, {"1", 0, 1}, {"0", 0, 1}, {"0", 1, 0}, {"0000", 0, 4}, {"1111", 1, 3},
		{"0101", math.MaxInt, 0}, {"0101", math.MinInt, 0}, {"0101", -4, 0}, {"0101", 1 << 32, 0},
		{strings.Repeat("1", api.MaxBits), 0, api.MaxBits}, {strings.Repeat("1", api.MaxBits), api.MaxBits - 1, 1},
		{strings.Repeat("1", api.MaxBits), api.MaxBits, 0}, {strings.Repeat("0", api.MaxBits-1) + "1", 1, api.MaxBits - 2},
		// The run itself is one of bits, but the string is not.
		{"0002", 0, 0}, {"2000", 1, 0}, {"0020", 3, 0}, {"02", 0, 0}, {"2222", 0, 0},
		{strings.Repeat("1", api.MaxBits+1), 0, 0}, {strings.Repeat("1", api.MaxBits+1), api.MaxBits, 0},
	} {
		if n := bits.Run(x.s, x.at); n != x.want {
			t.Errorf("%.70q %d: %d", x.s, x.at, n)
		}
	}
	for _, s := range short() {
		for at := -2; at < len(s)+2; at++ {
			want := 0
			if 0 <= at && at < len(s) {
				want = len(s[at:]) - len(strings.TrimLeft(s[at:], s[at:at+1]))
			}
			if n := bits.Run(s, at); n != want {
				t.Errorf("%q %d: %d", s, at, n)
			}
		}
	}
	for _, s := range invalid() {
		for _, at := range []int{math.MinInt, -1, 0, 1, 2, len(s) - 1, len(s), math.MaxInt} {
			if n := bits.Run(s, at); n != 0 {
				t.Errorf("%d characters %.70q %d: %d", len(s), s, at, n)
			}
		}
	}
}

// P3.7
func TestNumbersAreRestored(t *testing.T) {
	restore := func(n, width int) {
		for _, msb := range orders() {
			if r, e := bits.Int(bits.FromInt(n, width, msb), msb); r != n || e != api.OK {
				t.Error(n, width, msb, r, e)
			}
		}
	}
	for width := range 63 {
		for n := range min(1<<width, 1<<12) {
			restore(n, width)
			restore(1<<width-1-n, width)
		}
		for _, n := range numbers() {
			if 0 <= n && n < 1<<width {
				restore(n, width)
			}
		}
	}
}

// P3.7
func TestBytesAreRestored(t *testing.T) {
	l := append(everyByte(), strings.Repeat("\x00", mostBytes), strings.Repeat("\xff", mostBytes), strings.Repeat("x", mostBytes-1))
	for _, b := range l {
		for _, msb := range orders() {
			if r, e := bits.Bytes(bits.FromBytes(b, msb), msb); r != b || e != api.OK {
				t.Errorf("%d bytes %.70q %v: %d bytes %.70q %v", len(b), b, msb, len(r), r, e)
			}
		}
	}
}

// P3.8
func TestReverseChangesTheOrder(t *testing.T) {
	for _, n := range numbers() {
		for width := range 63 {
			for _, msb := range orders() {
				if s := bits.Reverse(bits.FromInt(n, width, msb)); s != bits.FromInt(n, width, !msb) {
					t.Error(n, width, msb, s)
				}
			}
		}
	}
	for _, s := range slices.Concat(short(), long()) {
		for _, msb := range orders() {
			n, e := bits.Int(s, msb)
			if r, f := bits.Int(bits.Reverse(s), !msb); r != n || f != e {
				t.Errorf("%d characters %.70q %v: %d %v, reversed %d %v", len(s), s, msb, n, e, r, f)
			}
		}
	}
}

// P3.8
func TestInvertAndReverseUndoThemselves(t *testing.T) {
	for _, s := range slices.Concat(short(), long()) {
		if r := bits.Invert(bits.Invert(s)); r != s {
			t.Errorf("%d characters %.70q: %.70q", len(s), s, r)
		}
		if r := bits.Reverse(bits.Reverse(s)); r != s {
			t.Errorf("%d characters %.70q: %.70q", len(s), s, r)
		}
	}
}
