// Package ratio is layer 1: exact rational numbers. See shared/doc/01-ratio.md.
package ratio

import (
	"cmp"
	"strconv"
	"strings"

	"signalbench/api"
)

// maxFactor bounds the factor of Scale. The product with a numerator, at most 2^62, is then an int.
const maxFactor = 1 << 32

// Valid reports whether r is in lowest terms and in range.
func Valid(r api.Ratio) bool {
	return 1 <= r.Den && r.Den <= api.MaxPart &&
		-api.MaxPart <= r.Num && r.Num <= api.MaxPart &&
		divisor(magnitude(r.Num), magnitude(r.Den)) == 1
}

// Make returns num / den.
func Make(num, den int) (api.Ratio, api.Errno) {
	if den == 0 {
		return api.Ratio{}, api.ErrArg
	}
	n, d := magnitude(num), magnitude(den)
	common := divisor(n, d)
	n, d = n/common, d/common
	if n > api.MaxPart || d > api.MaxPart {
		return api.Ratio{}, api.ErrOverflow
	}
	r := api.Ratio{Num: int(n), Den: int(d)}
	if (num < 0) != (den < 0) {
		r.Num = -r.Num
	}
	return r, api.OK
}

// Add returns a + b.
//
// The parts of valid ratios are at most 2^30, so that here and in the functions
// below no product is greater than 2^60 and no sum of two products than 2^61.
func Add(a, b api.Ratio) (api.Ratio, api.Errno) {
	if !Valid(a) || !Valid(b) {
		return api.Ratio{}, api.ErrArg
	}
	return Make(a.Num*b.Den+b.Num*a.Den, a.Den*b.Den)
}

// Sub returns a - b.
func Sub(a, b api.Ratio) (api.Ratio, api.Errno) {
	if !Valid(a) || !Valid(b) {
		return api.Ratio{}, api.ErrArg
	}
	return Make(a.Num*b.Den-b.Num*a.Den, a.Den*b.Den)
}

// Mul returns a * b.
func Mul(a, b api.Ratio) (api.Ratio, api.Errno) {
	if !Valid(a) || !Valid(b) {
		return api.Ratio{}, api.ErrArg
	}
	return Make(a.Num*b.Num, a.Den*b.Den)
}

// Div returns a / b.
func Div(a, b api.Ratio) (api.Ratio, api.Errno) {
	if !Valid(a) || !Valid(b) {
		return api.Ratio{}, api.ErrArg
	}
	// If b is 0, so is the denominator, and Make returns ErrArg.
	return Make(a.Num*b.Den, a.Den*b.Num)
}

// Cmp compares a with b.
func Cmp(a, b api.Ratio) int {
	if a == b || !Valid(a) || !Valid(b) {
		return 0
	}
	return cmp.Compare(a.Num*b.Den, b.Num*a.Den)
}

// Floor returns the greatest integer that is not greater than r.
func Floor(r api.Ratio) int {
	if !Valid(r) {
		return 0
	}
	return floor(r.Num, r.Den)
}

// Round returns the nearest integer, the greater one of two.
func Round(r api.Ratio) int {
	if !Valid(r) {
		return 0
	}
	return floor(2*r.Num+r.Den, 2*r.Den)
}

// Scale returns the floor of r * n.
func Scale(r api.Ratio, n int) (int, api.Errno) {
	if !Valid(r) {
		return 0, api.ErrArg
	}
	if n < -maxFactor || n > maxFactor {
		return 0, api.ErrOverflow
	}
	return floor(r.Num*n, r.Den), api.OK
}

// Text formats r.
func Text(r api.Ratio) string {
	if !Valid(r) {
		return ""
	}
	if r.Den == 1 {
		return strconv.Itoa(r.Num)
	}
	return strconv.Itoa(r.Num) + "/" + strconv.Itoa(r.Den)
}

// Parse parses a ratio.
func Parse(s string) (api.Ratio, api.Errno) {
	rest, negative := strings.CutPrefix(s, "-")
	first, second, fraction := strings.Cut(rest, "/")
	if !decimal(first) || fraction && !decimal(second) || negative && first == "0" {
		return api.Ratio{}, api.ErrSyntax
	}
	r := api.Ratio{Num: number(first), Den: 1}
	if fraction {
		r.Den = number(second)
	}
	if r.Num > api.MaxPart || r.Den > api.MaxPart {
		return api.Ratio{}, api.ErrOverflow
	}
	if fraction && (r.Den < 2 || !Valid(r)) {
		return api.Ratio{}, api.ErrSyntax
	}
	if negative {
		r.Num = -r.Num
	}
	return r, api.OK
}

// magnitude returns the absolute value of n. It is unsigned because that of the least int is not an int.
func magnitude(n int) uint64 {
	if n < 0 {
		return -uint64(n)
	}
	return uint64(n)
}

// divisor returns the greatest common divisor of a and b; that of a number and 0 is the number.
func divisor(a, b uint64) uint64 {
	for b != 0 {
		a, b = b, a%b
	}
	return a
}

// floor returns the greatest integer that is not greater than a / b, for a positive b.
func floor(a, b int) int {
	quotient := a / b
	// Go's division rounds toward zero, which is up for a negative quotient.
	if a%b < 0 {
		quotient--
	}
	return quotient
}

// decimal reports whether s is a decimal number: digits without a leading zero.
func decimal(s string) bool {
	if s == "" || len(s) > 1 && s[0] == '0' {
		return false
	}
	for i := range len(s) {
		if s[i] < '0' || s[i] > '9' {
			return false
		}
	}
	return true
}

// number returns the value of a decimal number. All values above MaxPart are
// too great alike, so it returns MaxPart + 1 for them and never overflows.
func number(s string) int {
	n := 0
	for i := range len(s) {
		n = min(10*n+int(s[i]-'0'), api.MaxPart+1)
	}
	return n
}
