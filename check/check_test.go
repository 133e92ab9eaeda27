package check_test

import (
	"hash/crc32"
	"math"
	"math/rand"
	"slices"
	"strings"
	"testing"

	"signalbench/api"
	"signalbench/bits"
	"signalbench/check"
)

// mostBytes is the number of bytes whose bits are the longest sequence.
const mostBytes = api.MaxBits / 8

// digits is the usual text for check values of CRCs.
const digits = "123456789"

// table returns the names of the document's table with their descriptions.
func table() ([]string, []api.Crc) {
	return []string{"can15", "crc16modbus", "crc32", "crc5usb", "crc8"}, []api.Crc{
		{Width: 15, Poly: 0x4599},
		{Width: 16, Poly: 0x8005, Init: 0xffff, Reflect: true},
		{Width: 32, Poly: 0x04c11db7, Init: 0xffffffff, Xor: 0xffffffff, Reflect: true},
		{Width: 5, Poly: 5, Init: 31, Xor: 31, Reflect: true},
		{Width: 8, Poly: 7},
	}
}

// descriptions returns valid descriptions: the named ones, and of each width the least, the greatest and some others.
func descriptions() []api.Crc {
	_, l := table()
	random := rand.New(rand.NewSource(4))
	for width := 1; width <= 32; width++ {
		most := 1<<width - 1
		for _, reflect := range []bool{false, true} {
			l = append(l, api.Crc{Width: width, Poly: 1, Reflect: reflect},
				api.Crc{Width: width, Poly: most, Init: most, Xor: most, Reflect: reflect},
				api.Crc{Width: width, Poly: random.Intn(1<<(width-1))*2 + 1, Init: random.Intn(most + 1), Xor: random.Intn(most + 1), Reflect: reflect})
		}
	}
	return l
}

// wrong returns descriptions that are not valid.
func wrong() []api.Crc {
	l := []api.Crc{{}, {Poly: 1}, {Width: 0, Poly: 1, Reflect: true}, {Width: 8, Poly: 7, Init: 256, Xor: 256}}
	for _, width := range []int{-1, -8, 33, 34, 40, 62, 63, 64, 65, math.MaxInt, math.MinInt} {
		l = append(l, api.Crc{Width: width, Poly: 1}, api.Crc{Width: width, Poly: 7, Init: 1, Xor: 1})
	}
	for width := 1; width <= 32; width++ {
		for _, n := range []int{-1, -2, 1 << width, 1<<width + 1, 1 << 40, math.MaxInt, math.MinInt, math.MinInt + 1} {
			l = append(l, api.Crc{Width: width, Poly: n}, api.Crc{Width: width, Poly: 1, Init: n}, api.Crc{Width: width, Poly: 1, Xor: n, Reflect: true})
		}
		// Even polynomials.
		l = append(l, api.Crc{Width: width, Poly: 0}, api.Crc{Width: width, Poly: 1<<width - 2}, api.Crc{Width: width, Poly: 1 << (width - 1) &^ 1})
	}
	return l
}

// divided returns the CRC of s by the long division of polynomials: its bits, followed by Width zeros,
// with Init added to the Width first ones, are divided by the polynomial with its leading coefficient.
func divided(c api.Crc, s string) int {
	rest := make([]int, len(s)+c.Width)
	for i := range len(s) {
		rest[i] = int(s[i] - '0')
	}
	for i := range c.Width {
		rest[i] ^= c.Init >> (c.Width - 1 - i) & 1
	}
	for i := range len(s) {
		if rest[i] == 1 {
			for k := range c.Width {
				rest[i+1+k] ^= c.Poly >> (c.Width - 1 - k) & 1
			}
		}
	}
	rest = rest[len(s):]
	if c.Reflect {
		slices.Reverse(rest)
	}
	n := 0
	for _, bit := range rest {
		n = n*2 + bit
	}
	return n ^ c.Xor
}

// sequences returns sequences of bits: all of at most 6 bits, some at the ends of registers, and some long ones.
func sequences() []string {
	l := []string{""}
	for first, length := 0, 0; length < 6; length++ {
		end := len(l)
		for _, s := range l[first:end] {
			l = append(l, s+"0", s+"1")
		}
		first = end
	}
	for _, length := range []int{7, 8, 15, 16, 17, 31, 32, 33, 64, 200} {
		l = append(l, strings.Repeat("0", length), strings.Repeat("1", length),
			"1"+strings.Repeat("0", length-1), strings.Repeat("0", length-1)+"1", strings.Repeat("1101000", length)[:length])
	}
	return l
}

// randomBits returns length bits.
func randomBits(random *rand.Rand, length int) string {
	b := make([]byte, length)
	for i := range b {
		b[i] = '0' + byte(random.Intn(2))
	}
	return string(b)
}

// randomBytes returns length bytes.
func randomBytes(random *rand.Rand, length int) string {
	b := make([]byte, length)
	random.Read(b)
	return string(b)
}

// someBytes returns strings of bytes of several lengths, all bytes among them.
func someBytes() []string {
	all := make([]byte, 256)
	for i := range all {
		all[i] = byte(i)
	}
	l := []string{"", digits, "\x00\x00", "\xff\xff", "\x01\x80", "\xff\x00", "\x00\xff", "é", "\xc3\x28", string(all),
		strings.Repeat("\x00", 300), strings.Repeat("\xff", 300)}
	for c := range 256 {
		l = append(l, string([]byte{byte(c)}), string([]byte{byte(c), 5}), string([]byte{'a', byte(c)}), string([]byte{0xff, byte(c), 0xff}))
	}
	return l
}

// P4.1
func TestRight(t *testing.T) {
	for _, c := range descriptions() {
		if !check.Right(c) {
			t.Errorf("not valid: %+v", c)
		}
	}
	for _, c := range wrong() {
		if check.Right(c) {
			t.Errorf("valid: %+v", c)
		}
	}
}

// P4.1
func TestRightOfAllSmallDescriptions(t *testing.T) {
	for width := -1; width <= 4; width++ {
		for poly := -1; poly <= 17; poly++ {
			for init := -1; init <= 17; init++ {
				for xor := -1; xor <= 17; xor++ {
					end := 1
					for range width {
						end *= 2
					}
					want := width >= 1 && 0 <= init && init < end && 0 <= xor && xor < end && 0 <= poly && poly < end && poly%2 != 0
					c := api.Crc{Width: width, Poly: poly, Init: init, Xor: xor, Reflect: poly%4 == 1}
					if check.Right(c) != want {
						t.Errorf("%+v: %v", c, !want)
					}
				}
			}
		}
	}
}

// P4.1
func TestNamed(t *testing.T) {
	names, crcs := table()
	for i, name := range names {
		if c, ok := check.Named(name); c != crcs[i] || !ok {
			t.Errorf("%s: %+v %v", name, c, ok)
		}
		if !check.Right(crcs[i]) {
			t.Errorf("%s is not valid", name)
		}
		for _, other := range []string{name + " ", " " + name, name + "\x00", name[1:], name[:len(name)-1], strings.ToUpper(name), name + name} {
			if c, ok := check.Named(other); c != (api.Crc{}) || ok {
				t.Errorf("%q: %+v %v", other, c, ok)
			}
		}
	}
	for _, name := range []string{"", "crc", "crc16", "crc16usb", "crc5", "can", "Crc8", "crc08", "0", "can15crc8"} {
		if c, ok := check.Named(name); c != (api.Crc{}) || ok {
			t.Errorf("%q: %+v %v", name, c, ok)
		}
	}
}

// P4.1
func TestNames(t *testing.T) {
	want, _ := table()
	names := check.Names()
	if !slices.Equal(names, want) {
		t.Error(names)
	}
	clear(names)
	if again := check.Names(); !slices.Equal(again, want) {
		t.Error("a result is not new memory:", again)
	}
	if c, ok := check.Named(want[0]); c.Width != 15 || !ok {
		t.Errorf("%+v %v", c, ok)
	}
}

// P4.2
func TestBits(t *testing.T) {
	crc8 := api.Crc{Width: 8, Poly: 7}
	for _, x := range []struct {
		c    api.Crc
		s    string
		want int
	}{
		{crc8, "00000001", 7}, {crc8, "10000000", 137}, {crc8, "", 0}, {crc8, "1", 7}, {crc8, "0", 0}, {crc8, "11", 9},
		{api.Crc{Width: 8, Poly: 7, Init: 0x5a, Xor: 0xf0}, "", 0xaa},
		{api.Crc{Width: 8, Poly: 7, Init: 0x1b, Xor: 0xf0, Reflect: true}, "", 0xd8 ^ 0xf0},
		// One bit of width: the parity.
		{api.Crc{Width: 1, Poly: 1}, "", 0}, {api.Crc{Width: 1, Poly: 1}, "1", 1}, {api.Crc{Width: 1, Poly: 1}, "11", 0},
		{api.Crc{Width: 1, Poly: 1}, "1000", 1}, {api.Crc{Width: 1, Poly: 1, Init: 1, Xor: 1, Reflect: true}, "011001", 1},
		// The polynomial is neither reversed with Reflect nor is its leading coefficient part of it.
		{api.Crc{Width: 3, Poly: 3}, "1", 3}, {api.Crc{Width: 3, Poly: 3, Reflect: true}, "1", 6},
		{api.Crc{Width: 3, Poly: 3, Init: 4}, "1", 0}, {api.Crc{Width: 3, Poly: 3, Init: 4}, "0", 3}, {api.Crc{Width: 3, Poly: 3, Init: 1}, "0", 2},
	} {
		if n, e := check.Bits(x.c, x.s); n != x.want || e != api.OK {
			t.Errorf("%+v %s: %d %v", x.c, x.s, n, e)
		}
	}
	for _, c := range descriptions() {
		for _, s := range sequences() {
			if n, e := check.Bits(c, s); n != divided(c, s) || e != api.OK {
				t.Errorf("%+v %s: %d %v", c, s, n, e)
			}
		}
	}
}

// P4.2
func TestBitsAtTheLimit(t *testing.T) {
	random := rand.New(rand.NewSource(42))
	_, crcs := table()
	for _, c := range crcs {
		for _, length := range []int{api.MaxBits - 1, api.MaxBits} {
			for _, s := range []string{strings.Repeat("0", length), strings.Repeat("1", length), randomBits(random, length)} {
				if n, e := check.Bits(c, s); n != divided(c, s) || e != api.OK {
					t.Errorf("%+v, %d bits: %d %v", c, length, n, e)
				}
			}
		}
		for _, length := range []int{api.MaxBits + 1, api.MaxBits + 8, 2 * api.MaxBits} {
			if n, e := check.Bits(c, strings.Repeat("1", length)); n != 0 || e != api.ErrLimit {
				t.Errorf("%+v, %d bits: %d %v", c, length, n, e)
			}
		}
	}
}

// P4.2
func TestBitsWithErrors(t *testing.T) {
	crc8 := api.Crc{Width: 8, Poly: 7, Init: 1, Xor: 2}
	long := strings.Repeat("1", api.MaxBits)
	invalid := []string{"2", "0101a", " 0", "1 ", "0\n", "\x000", "\x01", "\u0130", "\uff11", "0\xb1", long[1:] + "2", long + "2", "x" + long, long + "2" + long}
	for c := range 256 {
		if c != '0' && c != '1' {
			invalid = append(invalid, string([]byte{byte(c)}), string([]byte{'0', byte(c), '1'}))
		}
	}
	for _, s := range invalid {
		if n, e := check.Bits(crc8, s); n != 0 || e != api.ErrSyntax {
			t.Errorf("%d characters %.40q: %d %v", len(s), s, n, e)
		}
	}
	for _, c := range wrong() {
		for _, s := range []string{"", "1", "01101", "2", long + "1", long + "2"} {
			if n, e := check.Bits(c, s); n != 0 || e != api.ErrArg {
				t.Errorf("%+v %.40q: %d %v", c, s, n, e)
			}
		}
	}
}

// P4.3
func TestBytes(t *testing.T) {
	names, crcs := table()
	values := []int{0x059e, 0x4b37, 0xcbf43926, 0x19, 0xf4}
	for i, c := range crcs {
		if n, e := check.Bytes(c, digits); n != values[i] || e != api.OK {
			t.Errorf("%s: %#x %v", names[i], n, e)
		}
	}
	for _, x := range []struct {
		c    api.Crc
		b    string
		want int
	}{
		{crcs[4], "\x01", 7}, {crcs[4], "\x80", 137}, {crcs[4], "", 0}, {crcs[2], "", 0}, {crcs[1], "", 65535}, {crcs[0], "", 0}, {crcs[3], "", 0},
		{crcs[2], "\x00", 0xd202ef8d}, {crcs[2], "a", 0xe8b7be43},
	} {
		if n, e := check.Bytes(x.c, x.b); n != x.want || e != api.OK {
			t.Errorf("%+v %q: %d %v", x.c, x.b, n, e)
		}
	}
	for _, b := range someBytes() {
		if n, e := check.Bytes(crcs[2], b); n != int(crc32.ChecksumIEEE([]byte(b))) || e != api.OK {
			t.Errorf("%.40q: %d %v", b, n, e)
		}
	}
}

// P4.3
func TestBytesAtTheLimit(t *testing.T) {
	_, crcs := table()
	for _, length := range []int{mostBytes - 1, mostBytes} {
		b := strings.Repeat("\x00ab\xff\x80\x01", mostBytes)[:length]
		if n, e := check.Bytes(crcs[2], b); n != int(crc32.ChecksumIEEE([]byte(b))) || e != api.OK {
			t.Error(length, n, e)
		}
	}
	for _, length := range []int{mostBytes + 1, 2 * mostBytes, api.MaxBits, api.MaxBits + 1} {
		for _, c := range crcs {
			if n, e := check.Bytes(c, strings.Repeat("a", length)); n != 0 || e != api.ErrLimit {
				t.Errorf("%+v %d: %d %v", c, length, n, e)
			}
		}
	}
	for _, c := range wrong() {
		for _, b := range []string{"", "a", strings.Repeat("a", mostBytes), strings.Repeat("a", mostBytes+1)} {
			if n, e := check.Bytes(c, b); n != 0 || e != api.ErrArg {
				t.Errorf("%+v, %d bytes: %d %v", c, len(b), n, e)
			}
		}
	}
}

// P4.4
func TestSumXorCarry(t *testing.T) {
	for _, x := range []struct {
		b               string
		sum, xor, carry int
	}{
		{"", 0, 0, 255}, {"\x00", 0, 0, 255}, {"\x00\x00\x00", 0, 0, 255}, {"\x01", 1, 1, 254}, {"\xff", 255, 255, 0},
		{"\x4a\x55\x93\xe5", 0x17, 0x69, 0xe6}, {"\xff\xff", 254, 0, 0}, {"\xff\x00", 255, 255, 0}, {"\xff\x01", 0, 254, 254},
		{"\x80\x80", 0, 0, 254}, {"\x80\x7f", 255, 255, 0}, {"\x0f\xf0", 255, 255, 0}, {"\x01\x02\x04", 7, 7, 248},
		{strings.Repeat("\xff", 300), 212, 0, 0}, {strings.Repeat("\x01", 256), 0, 0, 254}, {strings.Repeat("\x01", 255), 255, 1, 0},
	} {
		if n := check.Sum(x.b); n != x.sum {
			t.Errorf("the sum of %.40q: %d", x.b, n)
		}
		if n := check.Xor(x.b); n != x.xor {
			t.Errorf("the exclusive or of %.40q: %d", x.b, n)
		}
		if n := check.Carry(x.b); n != x.carry {
			t.Errorf("the inverted sum with carry of %.40q: %d", x.b, n)
		}
	}
}

// P4.4
func TestSumsOfMoreBytes(t *testing.T) {
	random := rand.New(rand.NewSource(44))
	l := someBytes()
	for range 200 {
		l = append(l, randomBytes(random, random.Intn(3000)))
	}
	for _, b := range l {
		total, xor := 0, 0
		for _, c := range []byte(b) {
			total += int(c)
			xor ^= int(c)
		}
		// The sum with carry is the rest of a division by 255, but 255 if it would be 0 and a byte is not.
		carried := total % 255
		if total > 0 && carried == 0 {
			carried = 255
		}
		if check.Sum(b) != total%256 || check.Xor(b) != xor || check.Carry(b) != 255-carried {
			t.Errorf("%.40q: %d %d %d", b, check.Sum(b), check.Xor(b), check.Carry(b))
		}
	}
}

// P4.5
func TestDetectionOfInvertedBits(t *testing.T) {
	random := rand.New(rand.NewSource(45))
	for _, c := range descriptions() {
		for range 200 {
			s := randomBits(random, 1+random.Intn(80))
			length := 1 + random.Intn(min(c.Width, len(s)))
			first := random.Intn(len(s) - length + 1)
			// The first and the last bit of the part are inverted, and some between them.
			b := []byte(s)
			for i := first; i < first+length; i++ {
				if i == first || i == first+length-1 || random.Intn(2) == 0 {
					b[i] ^= 1
				}
			}
			n, e := check.Bits(c, s)
			m, f := check.Bits(c, string(b))
			if e != api.OK || f != api.OK || n == m {
				t.Errorf("%+v %s %s: %d %v, %d %v", c, s, b, n, e, m, f)
			}
		}
	}
}

// P4.5
func TestDetectionOfAllShortInversions(t *testing.T) {
	const s = "110100111010"
	for _, c := range descriptions() {
		if c.Width > 8 {
			continue
		}
		plain, _ := check.Bits(c, s)
		for pattern := 1; pattern < 1<<c.Width; pattern++ {
			for first := range len(s) - c.Width + 1 {
				b := []byte(s)
				for i := range c.Width {
					b[first+i] ^= byte(pattern >> i & 1)
				}
				if n, e := check.Bits(c, string(b)); n == plain || e != api.OK {
					t.Errorf("%+v %s: %d %v", c, b, n, e)
				}
			}
		}
	}
}

// P4.6
func TestStructureOfThreeSequences(t *testing.T) {
	random := rand.New(rand.NewSource(46))
	for _, c := range descriptions() {
		for _, length := range []int{0, 1, 2, 7, 8, 40, 100} {
			x, y, z := randomBits(random, length), randomBits(random, length), randomBits(random, length)
			sum := make([]byte, length)
			for i := range sum {
				sum[i] = x[i] ^ y[i] ^ z[i]
			}
			want := 0
			for _, s := range []string{x, y, z} {
				n, _ := check.Bits(c, s)
				want ^= n
			}
			if n, e := check.Bits(c, string(sum)); n != want || e != api.OK {
				t.Errorf("%+v %s %s %s: %d %v", c, x, y, z, n, e)
			}
		}
	}
}

// P4.6
func TestBytesAreBitsOfTheBytes(t *testing.T) {
	random := rand.New(rand.NewSource(47))
	for _, c := range descriptions() {
		for _, b := range []string{"", "\x01", "\x80", digits, randomBytes(random, 2), randomBytes(random, 100)} {
			want, _ := check.Bits(c, bits.FromBytes(b, !c.Reflect))
			if n, e := check.Bytes(c, b); n != want || e != api.OK {
				t.Errorf("%+v %.40q: %d %v", c, b, n, e)
			}
		}
	}
}

// P4.6
func TestSumsOfAConcatenation(t *testing.T) {
	random := rand.New(rand.NewSource(48))
	parts := []string{"", "\x00", "\xff", "\xff\xff", "\x80", "\x7f", "\x00\x00", digits}
	for range 50 {
		parts = append(parts, randomBytes(random, random.Intn(40)))
	}
	for _, a := range parts {
		for _, b := range parts {
			both := a + b
			if n := check.Sum(both); n != (check.Sum(a)+check.Sum(b))%256 {
				t.Errorf("the sum of %q and %q: %d", a, b, n)
			}
			if n := check.Xor(both); n != check.Xor(a)^check.Xor(b) {
				t.Errorf("the exclusive or of %q and %q: %d", a, b, n)
			}
			carried := 255 - check.Carry(a) + 255 - check.Carry(b)
			if carried > 255 {
				carried -= 255
			}
			if n := check.Carry(both); n != 255-carried {
				t.Errorf("the inverted sum with carry of %q and %q: %d", a, b, n)
			}
		}
	}
}
