package ratio_test

import (
	"math"
	"math/big"
	"regexp"
	"strings"
	"testing"

	"signalbench/api"
	"signalbench/ratio"
)

// A part at the limit and its neighbours: the limit is inside, the number after it outside.
const (
	most = api.MaxPart
	over = api.MaxPart + 1
)

// invalid returns ratios that are not valid, one for each reason and each bound.
func invalid() []api.Ratio {
	return []api.Ratio{
		{}, {Num: 1, Den: 0}, {Num: 1, Den: -1}, {Num: 1, Den: -2}, {Num: 1, Den: over}, {Num: 1, Den: math.MinInt}, {Num: 1, Den: math.MaxInt},
		{Num: over, Den: 1}, {Num: -over, Den: 1}, {Num: math.MinInt, Den: 1}, {Num: math.MaxInt, Den: 1},
		{Num: 0, Den: 2}, {Num: 2, Den: 2}, {Num: 2, Den: 4}, {Num: -6, Den: 9}, {Num: most, Den: most}, {Num: -most, Den: 2}, {Num: 3, Den: most - 1},
	}
}

// valid returns small ratios, and ratios at the limits.
func valid() []api.Ratio {
	l := []api.Ratio{
		{Num: most, Den: 1}, {Num: -most, Den: 1}, {Num: 1, Den: most}, {Num: -1, Den: most},
		{Num: most - 1, Den: most}, {Num: 1 - most, Den: most}, {Num: most, Den: most - 1}, {Num: -most, Den: most - 1},
		{Num: most - 1, Den: 1}, {Num: 1, Den: most - 1}, {Num: most / 2, Den: 1}, {Num: 1, Den: 1 << 15}, {Num: 1 << 15, Den: 1}, {Num: 1 << 15, Den: 1<<15 - 1},
	}
	for den := 1; den <= 7; den++ {
		for num := -9; num <= 9; num++ {
			if den == 1 || new(big.Int).GCD(nil, nil, big.NewInt(int64(num)), big.NewInt(int64(den))).Int64() == 1 {
				l = append(l, api.Ratio{Num: num, Den: den})
			}
		}
	}
	return l
}

func exact(r api.Ratio) *big.Rat { return big.NewRat(int64(r.Num), int64(r.Den)) }

// represent returns the ratio of a value, or ErrOverflow if it cannot be represented.
func represent(v *big.Rat) (api.Ratio, api.Errno) {
	bound := big.NewInt(most)
	if v.Num().CmpAbs(bound) > 0 || v.Denom().Cmp(bound) > 0 {
		return api.Ratio{}, api.ErrOverflow
	}
	return api.Ratio{Num: int(v.Num().Int64()), Den: int(v.Denom().Int64())}, api.OK
}

// below returns the greatest integer that is not greater than v. (Div of big.Int rounds down for a positive divisor.)
func below(v *big.Rat) int { return int(new(big.Int).Div(v.Num(), v.Denom()).Int64()) }

// P1.1
func TestValid(t *testing.T) {
	for _, r := range valid() {
		if !ratio.Valid(r) {
			t.Error("not valid:", r)
		}
	}
	for _, r := range invalid() {
		if ratio.Valid(r) {
			t.Error("valid:", r)
		}
	}
}

// P1.2
func TestMake(t *testing.T) {
	for _, x := range []struct {
		num, den int
		want     api.Ratio
		e        api.Errno
	}{
		{6, -8, api.Ratio{Num: -3, Den: 4}, api.OK},
		{-6, 8, api.Ratio{Num: -3, Den: 4}, api.OK},
		{-6, -8, api.Ratio{Num: 3, Den: 4}, api.OK},
		{0, 7, api.Ratio{Num: 0, Den: 1}, api.OK},
		{0, math.MinInt, api.Ratio{Num: 0, Den: 1}, api.OK},
		{0, 0, api.Ratio{}, api.ErrArg},
		{math.MinInt, 0, api.Ratio{}, api.ErrArg},
		{most, 1, api.Ratio{Num: most, Den: 1}, api.OK},
		{-most, 1, api.Ratio{Num: -most, Den: 1}, api.OK},
		{over, 1, api.Ratio{}, api.ErrOverflow},
		{-over, 1, api.Ratio{}, api.ErrOverflow},
		{1, most, api.Ratio{Num: 1, Den: most}, api.OK},
		{1, -most, api.Ratio{Num: -1, Den: most}, api.OK},
		{1, over, api.Ratio{}, api.ErrOverflow},
		{2, 2 * most, api.Ratio{Num: 1, Den: most}, api.OK},
		{math.MinInt, -1, api.Ratio{}, api.ErrOverflow},
		{math.MinInt, math.MaxInt, api.Ratio{}, api.ErrOverflow},
		{math.MinInt, math.MinInt, api.Ratio{Num: 1, Den: 1}, api.OK},
		{math.MinInt, 1 << 33, api.Ratio{Num: -most, Den: 1}, api.OK},
		{1 << 33, math.MinInt, api.Ratio{Num: -1, Den: most}, api.OK},
		{math.MaxInt, -math.MaxInt, api.Ratio{Num: -1, Den: 1}, api.OK},
	} {
		if r, e := ratio.Make(x.num, x.den); r != x.want || e != x.e {
			t.Error(x.num, x.den, r, e)
		}
	}
}

func TestMakeIsExact(t *testing.T) {
	l := []int{math.MinInt, math.MinInt + 1, -1 << 62, -1 << 33, -2 * most, -over, -most, -30, -1, 0, 1, 2, 3, 30, most - 1, most, over, 2 * most, 3 * most, 1 << 40, 1 << 62, math.MaxInt - 1, math.MaxInt}
	for _, num := range l {
		for _, den := range l {
			if den == 0 {
				continue
			}
			want, f := represent(big.NewRat(int64(num), int64(den)))
			if r, e := ratio.Make(num, den); r != want || e != f {
				t.Error(num, den, r, e, want, f)
			}
		}
	}
}

type operation struct {
	name  string
	call  func(a, b api.Ratio) (api.Ratio, api.Errno)
	exact func(z, a, b *big.Rat) *big.Rat
}

func operations() []operation {
	return []operation{
		{"Add", ratio.Add, (*big.Rat).Add},
		{"Sub", ratio.Sub, (*big.Rat).Sub},
		{"Mul", ratio.Mul, (*big.Rat).Mul},
		{"Div", ratio.Div, (*big.Rat).Quo},
	}
}

// P1.3
func TestArithmetic(t *testing.T) {
	overflows := map[string]int{}
	for _, o := range operations() {
		for _, a := range valid() {
			for _, b := range valid() {
				want, f := api.Ratio{}, api.ErrArg
				if o.name != "Div" || b.Num != 0 {
					want, f = represent(o.exact(new(big.Rat), exact(a), exact(b)))
				}
				if f == api.ErrOverflow {
					overflows[o.name]++
				}
				if r, e := o.call(a, b); r != want || e != f {
					t.Fatal(o.name, a, b, r, e, want, f)
				}
			}
		}
		if overflows[o.name] == 0 {
			t.Error("no overflow was tried:", o.name)
		}
	}
}

func TestArithmeticOfInvalidRatios(t *testing.T) {
	for _, o := range operations() {
		for _, a := range invalid() {
			for _, b := range append(valid(), invalid()...) {
				if r, e := o.call(a, b); r != (api.Ratio{}) || e != api.ErrArg {
					t.Fatal(o.name, a, b, r, e)
				}
				if r, e := o.call(b, a); r != (api.Ratio{}) || e != api.ErrArg {
					t.Fatal(o.name, b, a, r, e)
				}
			}
		}
	}
}

// P1.4
func TestCmp(t *testing.T) {
	for _, a := range valid() {
		for _, b := range valid() {
			if n := ratio.Cmp(a, b); n != exact(a).Cmp(exact(b)) {
				t.Fatal(a, b, n)
			}
		}
		for _, b := range invalid() {
			if ratio.Cmp(a, b) != 0 || ratio.Cmp(b, a) != 0 || ratio.Cmp(b, b) != 0 {
				t.Fatal(a, b)
			}
		}
	}
}

func TestFloorAndRound(t *testing.T) {
	for _, x := range []struct {
		r            api.Ratio
		floor, round int
	}{
		{api.Ratio{Num: -3, Den: 4}, -1, -1},
		{api.Ratio{Num: 1, Den: 2}, 0, 1},
		{api.Ratio{Num: -1, Den: 2}, -1, 0},
		{api.Ratio{Num: -3, Den: 2}, -2, -1},
		{api.Ratio{Num: -4, Den: 1}, -4, -4},
		{api.Ratio{Num: 0, Den: 1}, 0, 0},
	} {
		if ratio.Floor(x.r) != x.floor || ratio.Round(x.r) != x.round {
			t.Error(x, ratio.Floor(x.r), ratio.Round(x.r))
		}
	}
	for _, r := range valid() {
		if n := ratio.Floor(r); n != below(exact(r)) {
			t.Error("Floor", r, n)
		}
		if n := ratio.Round(r); n != below(new(big.Rat).Add(exact(r), big.NewRat(1, 2))) {
			t.Error("Round", r, n)
		}
	}
	for _, r := range invalid() {
		if ratio.Floor(r) != 0 || ratio.Round(r) != 0 {
			t.Error(r)
		}
	}
}

// P1.5
func TestScale(t *testing.T) {
	factors := []int{math.MinInt, -1<<32 - 1, -1 << 32, 1 - 1<<32, -most, -7, -5, -1, 0, 1, 2, 5, 7, most, 1<<32 - 1, 1 << 32, 1<<32 + 1, math.MaxInt}
	for _, n := range factors {
		for _, r := range valid() {
			want, f := 0, api.ErrOverflow
			if -1<<32 <= n && n <= 1<<32 {
				want, f = below(new(big.Rat).Mul(exact(r), big.NewRat(int64(n), 1))), api.OK
			}
			if m, e := ratio.Scale(r, n); m != want || e != f {
				t.Error(r, n, m, e, want, f)
			}
		}
		for _, r := range invalid() {
			if m, e := ratio.Scale(r, n); m != 0 || e != api.ErrArg {
				t.Error(r, n, m, e)
			}
		}
	}
	if m, e := ratio.Scale(api.Ratio{Num: -3, Den: 4}, 5); m != -4 || e != api.OK {
		t.Error(m, e)
	}
}

// P1.6
func TestText(t *testing.T) {
	for _, x := range []struct {
		r    api.Ratio
		want string
	}{
		{api.Ratio{Num: 0, Den: 1}, "0"},
		{api.Ratio{Num: 12, Den: 1}, "12"},
		{api.Ratio{Num: -12, Den: 1}, "-12"},
		{api.Ratio{Num: 3, Den: 4}, "3/4"},
		{api.Ratio{Num: -3, Den: 4}, "-3/4"},
		{api.Ratio{Num: -most, Den: 1}, "-1073741824"},
		{api.Ratio{Num: 1, Den: most}, "1/1073741824"},
	} {
		if s := ratio.Text(x.r); s != x.want {
			t.Error(x.r, s)
		}
	}
	for _, r := range invalid() {
		if s := ratio.Text(r); s != "" {
			t.Error(r, s)
		}
	}
}

func TestParse(t *testing.T) {
	long := strings.Repeat("9", 1000)
	for _, x := range []struct {
		s    string
		want api.Ratio
		e    api.Errno
	}{
		{"0", api.Ratio{Num: 0, Den: 1}, api.OK},
		{"-7", api.Ratio{Num: -7, Den: 1}, api.OK},
		{"-7/12", api.Ratio{Num: -7, Den: 12}, api.OK},
		{"1073741824", api.Ratio{Num: most, Den: 1}, api.OK},
		{"-1073741824", api.Ratio{Num: -most, Den: 1}, api.OK},
		{"1/1073741824", api.Ratio{Num: 1, Den: most}, api.OK},
		{"1073741825", api.Ratio{}, api.ErrOverflow},
		{"-1073741825", api.Ratio{}, api.ErrOverflow},
		{"1/1073741825", api.Ratio{}, api.ErrOverflow},
		// An excess comes before the reduction, but after the form.
		{"1073741825/2", api.Ratio{}, api.ErrOverflow},
		{"1073741826/2", api.Ratio{}, api.ErrOverflow},
		{"1073741825/0", api.Ratio{}, api.ErrOverflow},
		{"1073741825/1", api.Ratio{}, api.ErrOverflow},
		{"0/1073741825", api.Ratio{}, api.ErrOverflow},
		{"1073741825/02", api.Ratio{}, api.ErrSyntax},
		{"1073741825/", api.Ratio{}, api.ErrSyntax},
		{"1073741825/x", api.Ratio{}, api.ErrSyntax},
		{"-0/1073741825", api.Ratio{}, api.ErrSyntax},
		// Numbers whose value is small again modulo 2^64.
		{"18446744073709551617", api.Ratio{}, api.ErrOverflow},
		{"1/18446744073709551618", api.Ratio{}, api.ErrOverflow},
		{long, api.Ratio{}, api.ErrOverflow},
		{"1/" + long, api.Ratio{}, api.ErrOverflow},
		{"1" + strings.Repeat("0", 1000), api.Ratio{}, api.ErrOverflow},
		{long + "x", api.Ratio{}, api.ErrSyntax},
		{"2/4", api.Ratio{}, api.ErrSyntax},
		{"-2/4", api.Ratio{}, api.ErrSyntax},
		{"1073741824/1073741824", api.Ratio{}, api.ErrSyntax},
		{"3/1", api.Ratio{}, api.ErrSyntax},
		{"3/0", api.Ratio{}, api.ErrSyntax},
		{"0/1", api.Ratio{}, api.ErrSyntax},
		{"0/5", api.Ratio{}, api.ErrSyntax},
		{"-0", api.Ratio{}, api.ErrSyntax},
		{"-0/5", api.Ratio{}, api.ErrSyntax},
		{"", api.Ratio{}, api.ErrSyntax},
		{"-", api.Ratio{}, api.ErrSyntax},
		{"--1", api.Ratio{}, api.ErrSyntax},
		{"+1", api.Ratio{}, api.ErrSyntax},
		{"1/-2", api.Ratio{}, api.ErrSyntax},
		{"1/+2", api.Ratio{}, api.ErrSyntax},
		{"/2", api.Ratio{}, api.ErrSyntax},
		{"1/2/3", api.Ratio{}, api.ErrSyntax},
		{"1//2", api.Ratio{}, api.ErrSyntax},
		{"00", api.Ratio{}, api.ErrSyntax},
		{"07", api.Ratio{}, api.ErrSyntax},
		{" 1", api.Ratio{}, api.ErrSyntax},
		{"1 ", api.Ratio{}, api.ErrSyntax},
		{"1/2\n", api.Ratio{}, api.ErrSyntax},
		{"1_0", api.Ratio{}, api.ErrSyntax},
		{"0x1", api.Ratio{}, api.ErrSyntax},
		{"1.5", api.Ratio{}, api.ErrSyntax},
		{"1e3", api.Ratio{}, api.ErrSyntax},
		{"\u0661", api.Ratio{}, api.ErrSyntax},
		{"1\x00", api.Ratio{}, api.ErrSyntax},
		{"\xff", api.Ratio{}, api.ErrSyntax},
	} {
		if r, e := ratio.Parse(x.s); r != x.want || e != x.e {
			t.Errorf("%q: %v %v", x.s, r, e)
		}
	}
}

var form = regexp.MustCompile(`^-?(0|[1-9][0-9]*)(/(0|[1-9][0-9]*))?$`)

// read is an independent reading of P1.6, for strings whose numbers are in range.
func read(s string) (api.Ratio, api.Errno) {
	if !form.MatchString(s) || strings.HasPrefix(s, "-0") {
		return api.Ratio{}, api.ErrSyntax
	}
	v, ok := new(big.Rat).SetString(s)
	// A fraction that is not in lowest terms, or whose denominator is 1, is written differently.
	if !ok || v.RatString() != s {
		return api.Ratio{}, api.ErrSyntax
	}
	return represent(v)
}

// TestParseShort parses all strings of up to six of some characters.
func TestParseShort(t *testing.T) {
	accepted := 0
	var each func(s string)
	each = func(s string) {
		want, f := read(s)
		r, e := ratio.Parse(s)
		if r != want || e != f {
			t.Fatalf("%q: %v %v, want %v %v", s, r, e, want, f)
		}
		if e == api.OK {
			accepted++
			if ratio.Text(r) != s {
				t.Fatalf("%q is written %q", s, ratio.Text(r))
			}
		}
		for i := 0; len(s) < 6 && i < len("-/01269:"); i++ {
			each(s + "-/01269:"[i:i+1])
		}
	}
	each("")
	if accepted == 0 {
		t.Error("nothing was accepted")
	}
}

// P1.7
func TestField(t *testing.T) {
	for _, a := range valid() {
		for _, b := range valid() {
			sum, e := ratio.Add(a, b)
			if other, f := ratio.Add(b, a); sum != other || e != f {
				t.Fatal("Add is not commutative", a, b)
			}
			if back, _ := ratio.Sub(sum, b); e == api.OK && back != a {
				t.Fatal("Sub does not undo Add", a, b)
			}
			product, e := ratio.Mul(a, b)
			if other, f := ratio.Mul(b, a); product != other || e != f {
				t.Fatal("Mul is not commutative", a, b)
			}
			if back, _ := ratio.Div(product, b); e == api.OK && b.Num != 0 && back != a {
				t.Fatal("Div does not undo Mul", a, b)
			}
			for _, c := range valid() {
				distribute(t, a, b, c)
			}
		}
	}
}

// distribute compares a * (b + c) with a * b + a * c, if all results can be represented.
func distribute(t *testing.T, a, b, c api.Ratio) {
	sum, e1 := ratio.Add(b, c)
	left, e2 := ratio.Mul(a, sum)
	first, e3 := ratio.Mul(a, b)
	second, e4 := ratio.Mul(a, c)
	right, e5 := ratio.Add(first, second)
	if e1 == api.OK && e2 == api.OK && e3 == api.OK && e4 == api.OK && e5 == api.OK && left != right {
		t.Fatal("Mul does not distribute over Add", a, b, c)
	}
}

// P1.8
func TestTextIsReadBack(t *testing.T) {
	for _, r := range valid() {
		if back, e := ratio.Parse(ratio.Text(r)); back != r || e != api.OK {
			t.Error(r, back, e)
		}
	}
	for _, s := range []string{"0", "1", "-1", "10/3", "-10/3", "1073741824", "-1073741824", "1073741823/1073741824", "-1/1073741824"} {
		if r, e := ratio.Parse(s); e != api.OK || ratio.Text(r) != s {
			t.Error(s, r, e)
		}
	}
}
