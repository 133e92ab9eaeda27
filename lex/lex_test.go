package lex_test

import (
	"math"
	"math/big"
	"math/rand"
	"regexp"
	"slices"
	"strconv"
	"strings"
	"testing"

	"signalbench/api"
	"signalbench/lex"
)

const (
	most  = 1 << 53                  // greatest magnitude of a number
	marks = "()[]{}<>=,;:./*+!&|"    // the marks of the document
	alpha = "abcdefghijklmnopqrst_0" // characters of names
)

// The forms of the document as regular expressions: an independent reading of it.
var (
	nameForm   = regexp.MustCompile(`\A[a-z][a-z0-9_]{0,15}\z`)
	numberForm = regexp.MustCompile(`\A(0|0x0|-?[1-9][0-9]*|-?0x[1-9a-f][0-9a-f]*)\z`)
	quotedForm = regexp.MustCompile(`\A"([ !#-\[\]-~]|\\["\\n]|\\x[0-9a-f]{2})*"\z`)
	markForm   = regexp.MustCompile(`\A[][(){}<>=,;:./*+!&|]\z`)
	gapForm    = regexp.MustCompile(`\A([ \t\n]|#[^\n]*)+`)
	pieceForm  = regexp.MustCompile(`\A([a-z0-9-][a-z0-9_]*|"(?s:\\.|[^"\\])*"|[][(){}<>=,;:./*+!&|])`)
	partForm   = regexp.MustCompile(`\\x..|\\.|.`)
)

// number returns what Number must return for s.
func number(s string) (int, api.Errno) {
	if !numberForm.MatchString(s) {
		return 0, api.ErrSyntax
	}
	n, _ := new(big.Int).SetString(s, 0)
	if n.CmpAbs(big.NewInt(most)) > 0 {
		return 0, api.ErrRange
	}
	return int(n.Int64()), api.OK
}

// contents returns what Unquote must return for s.
func contents(s string) (string, api.Errno) {
	if !quotedForm.MatchString(s) {
		return "", api.ErrSyntax
	}
	var b []byte
	for _, part := range partForm.FindAllString(s[1:len(s)-1], -1) {
		switch {
		case strings.HasPrefix(part, `\x`):
			n, _ := strconv.ParseUint(part[2:], 16, 8)
			b = append(b, byte(n))
		case part == `\n`:
			b = append(b, 10)
		default:
			b = append(b, part[len(part)-1])
		}
	}
	return string(b), api.OK
}

// tokens returns what Tokens must return for s.
func tokens(s string) ([]api.Token, int, api.Errno) {
	var l []api.Token
	for rest := s; ; {
		rest = rest[len(gapForm.FindString(rest)):]
		if rest == "" {
			return l, 0, api.OK
		}
		line := 1 + strings.Count(s[:len(s)-len(rest)], "\n")
		piece := pieceForm.FindString(rest)
		t := api.Token{Text: piece, Line: line}
		e := api.OK
		switch {
		case nameForm.MatchString(piece):
			t.Kind = api.TkName
		case markForm.MatchString(piece):
			t.Kind = api.TkMark
		case strings.HasPrefix(piece, `"`):
			t.Kind = api.TkString
			t.Text, e = contents(piece)
		default:
			t.Kind = api.TkNumber
			t.Value, e = number(piece)
		}
		if e != api.OK {
			return nil, line, e
		}
		l = append(l, t)
		rest = rest[len(piece):]
	}
}

// words returns all strings of at most length of the given parts.
func words(length int, parts ...string) []string {
	l := []string{""}
	first := 0
	for range length {
		end := len(l)
		for _, s := range l[first:end] {
			for _, part := range parts {
				l = append(l, s+part)
			}
		}
		first = end
	}
	return l
}

// oneByte returns the strings of one byte.
func oneByte() []string {
	var l []string
	for c := range 256 {
		l = append(l, string([]byte{byte(c)}))
	}
	return l
}

// twoBytes returns the strings of at most two bytes.
func twoBytes() []string {
	return words(2, oneByte()...)
}

// randomBytes returns length bytes.
func randomBytes(random *rand.Rand, length int) string {
	b := make([]byte, length)
	random.Read(b)
	return string(b)
}

// foreign returns characters outside ASCII whose last byte or lowest byte is that of a character of a token, or that
// other classifications take for letters, digits or blanks.
func foreign() []string {
	return []string{"é", "ä", "\u0161", "\u0130", "\u0131", "\u0430", "\u0661", "\uff11", "\uff41", "\u0120", "\u2028", "\u00a0",
		"\u0085", "\u2003", "\ufeff", "\ufffd", "\U00010061", "\U00010030", "\xff", "\x80", "\xe1", "\xb0", "\xa0", "\xc3", "\xe2\x82", "\xed\xa0\x80"}
}

// P5.3
func TestName(t *testing.T) {
	for _, s := range []string{"a", "z", "m", "a0", "a9", "z_", "a_b", "a__", "uart", "crc16modbus", "x0f", "abcdefghijklmnop",
		"q" + strings.Repeat("_", 15), "q" + strings.Repeat("9", 15), strings.Repeat("z", 16)} {
		if !lex.Name(s) {
			t.Errorf("not a name: %q", s)
		}
	}
	for _, s := range []string{"", "0", "9", "_", "0a", "_a", "9a", "A", "aB", "Ab", "a b", " a", "a ", "a\n", "\na", "a-b", "-a", "a.b", "a\x00", "a\"",
		"abcdefghijklmnopq", strings.Repeat("a", 17), strings.Repeat("a", 32), strings.Repeat("a", 1<<16), "a" + strings.Repeat("_", 16),
		"abcdefghijklmno-", "abcdefghijklmnoP"} {
		if lex.Name(s) {
			t.Errorf("a name: %.40q", s)
		}
	}
	for _, s := range foreign() {
		if lex.Name(s) || lex.Name("a"+s) || lex.Name(s+"a") || lex.Name("a"+s+"a") {
			t.Errorf("a name with %q", s)
		}
	}
}

// P5.3
func TestNameOfShortStrings(t *testing.T) {
	for _, s := range slices.Concat(twoBytes(), words(5, "a", "z", "0", "9", "_", "-", "A", "é")) {
		if lex.Name(s) != nameForm.MatchString(s) {
			t.Errorf("%q: %v", s, lex.Name(s))
		}
	}
	for length := range 40 {
		for _, s := range []string{strings.Repeat("a", length), strings.Repeat("é", length/2), strings.Repeat("b_7", 40)[:length]} {
			if lex.Name(s) != nameForm.MatchString(s) {
				t.Errorf("%q: %v", s, lex.Name(s))
			}
		}
	}
}

// P5.4
func TestNumber(t *testing.T) {
	for _, x := range []struct {
		s string
		n int
	}{
		{"0", 0}, {"0x0", 0}, {"1", 1}, {"-1", -1}, {"9", 9}, {"10", 10}, {"-10", -10}, {"1234567890", 1234567890}, {"-31", -31},
		{"0x1", 1}, {"-0x1", -1}, {"0x9", 9}, {"0xa", 10}, {"0xf", 15}, {"0x10", 16}, {"-0x1f", -31}, {"0xabcdef", 0xabcdef}, {"0x123456789", 0x123456789},
		{"9007199254740991", most - 1}, {"9007199254740992", most}, {"-9007199254740991", 1 - most}, {"-9007199254740992", -most},
		{"0x1fffffffffffff", most - 1}, {"0x20000000000000", most}, {"-0x1fffffffffffff", 1 - most}, {"-0x20000000000000", -most},
	} {
		if n, e := lex.Number(x.s); n != x.n || e != api.OK {
			t.Errorf("%q: %d %v", x.s, n, e)
		}
	}
}

// P5.4
func TestNumberOfOtherForms(t *testing.T) {
	huge := strings.Repeat("9", 1000)
	l := []string{"", "-", "007", "00", "01", "-0", "-00", "-01", "0x", "-0x", "-0x0", "0x00", "0x01", "-0x01", "x", "x0", "0x0x1", "1x1", "00x1", "0b1", "0o7",
		"0X1", "0xA", "0xF", "0x1F", "0xg", "0x1g", "a", "1a", "a1", "f", "1_0", "1_", "_1", "0x_1", "+1", "--1", "-+1", "- 1", "1-", "1-1", "0x-1",
		" 1", "1 ", "1\n", "\n1", "1.0", "1e3", "1,0", "1\x00", "\"1\"",
		// A wrong form is reported although the digits are out of range.
		huge + "a", "0" + huge, "-" + huge + " ", "0x" + huge + "g", "0x0" + huge, "--" + huge, huge + "-", "9007199254740993_", "09007199254740993"}
	for _, s := range foreign() {
		l = append(l, s, "1"+s, s+"1", "1"+s+"1", "0x"+s, "0x1"+s, "-"+s)
	}
	for _, s := range l {
		if n, e := lex.Number(s); n != 0 || e != api.ErrSyntax {
			t.Errorf("%.40q: %d %v", s, n, e)
		}
	}
}

// P5.4
func TestNumberOutOfRange(t *testing.T) {
	l := []string{"9007199254740993", "0x20000000000001", "9223372036854775807", "9223372036854775808", "9223372036854775809", "18446744073709551615",
		"18446744073709551616", "18446744073709551617", "0x7fffffffffffffff", "0x8000000000000000", "0xffffffffffffffff", "0x10000000000000000",
		"0x10000000000000001", "90071992547409920", "0x200000000000000", strings.Repeat("9", 100000), "0x" + strings.Repeat("f", 100000),
		"1" + strings.Repeat("0", 1000), "0x1" + strings.Repeat("0", 1000)}
	for _, s := range l {
		for _, sign := range []string{"", "-"} {
			if n, e := lex.Number(sign + s); n != 0 || e != api.ErrRange {
				t.Errorf("%s%.40s: %d %v", sign, s, n, e)
			}
		}
	}
}

// P5.4
func TestNumberAgainstTheForm(t *testing.T) {
	l := slices.Concat(twoBytes(), words(5, "-", "0", "x", "1", "9", "a", "f", "g", "_"))
	for shift := range 70 {
		power := new(big.Int).Lsh(big.NewInt(1), uint(shift))
		for _, difference := range []int64{-1, 0, 1} {
			n := new(big.Int).Add(power, big.NewInt(difference))
			l = append(l, n.Text(10), "-"+n.Text(10), "0x"+n.Text(16), "-0x"+n.Text(16), "0"+n.Text(10), "0x0"+n.Text(16))
		}
	}
	for _, s := range l {
		want, wrong := number(s)
		if n, e := lex.Number(s); n != want || e != wrong {
			t.Errorf("%q: %d %v, not %d %v", s, n, e, want, wrong)
		}
	}
}

// P5.5
func TestQuote(t *testing.T) {
	for _, x := range []struct{ s, want string }{
		{"", `""`}, {"a", `"a"`}, {" ", `" "`}, {"Hello, World~!", `"Hello, World~!"`}, {"#'`$%@", "\"#'`$%@\""},
		{"a\n\"\xff", `"a\n\"\xff"`}, {"\"", `"\""`}, {"\\", `"\\"`}, {"\\\"", `"\\\""`}, {"\n\n", `"\n\n"`}, {"\\n", `"\\n"`}, {"\\x41", `"\\x41"`},
		{"\x00", `"\x00"`}, {"\t", `"\x09"`}, {"\r", `"\x0d"`}, {"\x1f", `"\x1f"`}, {"\x7f", `"\x7f"`}, {"\x80", `"\x80"`}, {"\xab\xcd\xef", `"\xab\xcd\xef"`},
		{"é", `"\xc3\xa9"`}, {"\u2028", `"\xe2\x80\xa8"`}, {"\ufffd", `"\xef\xbf\xbd"`}, {"a\x000", `"a\x000"`},
		{strings.Repeat("\xfe", 5000), `"` + strings.Repeat(`\xfe`, 5000) + `"`}, {strings.Repeat("q", api.MaxText+9), `"` + strings.Repeat("q", api.MaxText+9) + `"`},
	} {
		if s := lex.Quote(x.s); s != x.want {
			t.Errorf("%.40q: %.80s", x.s, s)
		}
	}
}

// P5.5
func TestQuoteEachByte(t *testing.T) {
	for c := range 256 {
		want := string([]byte{byte(c)})
		switch {
		case c == '"':
			want = `\"`
		case c == '\\':
			want = `\\`
		case c == 10:
			want = `\n`
		case c < 32 || c > 126:
			want = `\x` + string("0123456789abcdef"[c/16]) + string("0123456789abcdef"[c%16])
		}
		one := string([]byte{byte(c)})
		if s := lex.Quote(one); s != `"`+want+`"` {
			t.Errorf("%q: %s", one, s)
		}
		if s := lex.Quote("a" + one + one + "\xc3"); s != `"a`+want+want+`\xc3"` {
			t.Errorf("%q: %s", one, s)
		}
	}
}

// P5.6
func TestUnquote(t *testing.T) {
	for _, x := range []struct{ s, want string }{
		{`""`, ""}, {`"a"`, "a"}, {`" "`, " "}, {`"~"`, "~"}, {`"a b#'c"`, "a b#'c"}, {`"a\n\"\xff"`, "a\n\"\xff"}, {`"\""`, `"`}, {`"\\"`, `\`}, {`"\n"`, "\n"},
		{`"\\n"`, `\n`}, {`"\\\n"`, "\\\n"}, {`"\\\\"`, `\\`}, {`"\\\""`, `\"`}, {`"\"\""`, `""`},
		// Bytes that Quote writes differently.
		{`"\x41"`, "A"}, {`"\x22"`, `"`}, {`"\x5c"`, `\`}, {`"\x5cn"`, `\n`}, {`"\x0a"`, "\n"}, {`"\x20"`, " "}, {`"\x7e"`, "~"},
		{`"\x00"`, "\x00"}, {`"\x7f"`, "\x7f"}, {`"\xc3\xa9"`, "é"}, {`"\x4142"`, "A42"}, {`"\x0aa"`, "\na"}, {`"nx\\x41"`, `nx\x41`},
		{`"` + strings.Repeat(`\xab`, api.MaxText) + `"`, strings.Repeat("\xab", api.MaxText)},
	} {
		if s, e := lex.Unquote(x.s); s != x.want || e != api.OK {
			t.Errorf("%.40s: %.40q %v", x.s, s, e)
		}
	}
	for c := range 256 {
		want := string([]byte{byte(c)})
		quoted := `"\x` + string("0123456789abcdef"[c/16]) + string("0123456789abcdef"[c%16]) + `"`
		if s, e := lex.Unquote(quoted); s != want || e != api.OK {
			t.Errorf("%s: %q %v", quoted, s, e)
		}
	}
}

// P5.6
func TestUnquoteOfOtherForms(t *testing.T) {
	l := []string{"", "a", `"`, `\`, `"a`, `a"`, `a""`, `""a`, `"a" `, ` "a"`, "\"a\"\n", `'a'`, "`a`", `"""`, `"a"b"`, `"a""b"`, `"" ""`,
		`"\"`, `"\\\"`, `"a\"`, `"\\`, `"\\\\\"`, `\"a\"`, `"\`, `"\x"`, `"\x4"`, `"\x41`, `"\x4`, `"\x`, `"\x\x41"`, `"\x4g"`, `"\xg4"`, `"\x 4"`, `"\x4 "`, `"\x-1"`, `"\x+1"`,
		`"\x4A"`, `"\xA4"`, `"\xFF"`, `"\X41"`, `"\N"`, `"\t"`, `"\r"`, `"\0"`, `"\000"`, `"\u0041"`, `"\a"`, `"\'"`, `"\ "`, `"\/"`, "\"\\\n\"", "\"\\\xff\"",
		"\"\n\"", "\"\t\"", "\"\r\"", "\"\x00\"", "\"\x1f\"", "\"\x7f\"", "\"\x80\"", "\"\xff\"", `"é"`, "\"abc\ndef\"", "\"abc\x00\""}
	for _, s := range foreign() {
		l = append(l, `"`+s+`"`, `"a`+s+`"`, `"\`+s+`"`, `"\x`+s+`"`, `"\x`+s+`0"`, `"\x0`+s+`"`, s+`"`, `"`+s)
	}
	for _, s := range l {
		if c, e := lex.Unquote(s); c != "" || e != api.ErrSyntax {
			t.Errorf("%q: %q %v", s, c, e)
		}
	}
}

// P5.6
func TestUnquoteAgainstTheForm(t *testing.T) {
	l := slices.Concat(twoBytes(), words(6, `"`, `\`, "n", "x", "0", "f", "G"))
	for _, s := range twoBytes() {
		l = append(l, `"`+s+`"`, `"\`+s+`"`, `"\x`+s+`"`)
	}
	for _, s := range words(5, `"`, `\`, "n", "x", "0", "f", "G", "\n") {
		l = append(l, `"`+s+`"`)
	}
	for _, s := range l {
		want, wrong := contents(s)
		if c, e := lex.Unquote(s); c != want || e != wrong {
			t.Errorf("%q: %q %v, not %q %v", s, c, e, want, wrong)
		}
	}
}

// name, num, str and mark return tokens of the four kinds.
func name(s string, line int) api.Token { return api.Token{Kind: 1, Text: s, Line: line} }
func num(s string, n, line int) api.Token {
	return api.Token{Kind: 2, Text: s, Value: n, Line: line}
}
func str(s string, line int) api.Token  { return api.Token{Kind: 3, Text: s, Line: line} }
func mark(s string, line int) api.Token { return api.Token{Kind: 4, Text: s, Line: line} }

// P5.1
func TestTokens(t *testing.T) {
	for _, x := range []struct {
		s    string
		want []api.Token
	}{
		{"", nil}, {" ", nil}, {"\t\n \n", nil}, {"#", nil}, {"# a comment", nil}, {"#\n#\n", nil}, {"# \"no string", nil}, {"## é \xff \x00 A $ \r \"", nil},
		{"a2 = -0x1f; # end", []api.Token{name("a2", 1), mark("=", 1), num("-0x1f", -31, 1), mark(";", 1)}},
		{"a(5", []api.Token{name("a", 1), mark("(", 1), num("5", 5, 1)}},
		{"5-3", []api.Token{num("5", 5, 1), num("-3", -3, 1)}},
		{"a-3", []api.Token{name("a", 1), num("-3", -3, 1)}},
		{"1-2-0x3", []api.Token{num("1", 1, 1), num("-2", -2, 1), num("-0x3", -3, 1)}},
		{"a b\tc\nd", []api.Token{name("a", 1), name("b", 1), name("c", 1), name("d", 2)}},
		{"\n\na\n\n\nb c\n", []api.Token{name("a", 3), name("b", 6), name("c", 6)}},
		{"a#b c\nd# e\n# f\ng", []api.Token{name("a", 1), name("d", 2), name("g", 4)}},
		{"a # b # c\nd", []api.Token{name("a", 1), name("d", 2)}},
		{"5#\n6", []api.Token{num("5", 5, 1), num("6", 6, 2)}},
		{`"a"#"b"`, []api.Token{str("a", 1)}},
		{`"a#b" c`, []api.Token{str("a#b", 1), name("c", 1)}},
		{`"a""b"c"d"5"e"`, []api.Token{str("a", 1), str("b", 1), name("c", 1), str("d", 1), num("5", 5, 1), str("e", 1)}},
		{`"" "\"" "\\" "\\\"" "\n\x41\xff"`, []api.Token{str("", 1), str(`"`, 1), str(`\`, 1), str(`\"`, 1), str("\nA\xff", 1)}},
		// A line feed in the contents is none of the text.
		{`"\n\x0a" a`, []api.Token{str("\n\n", 1), name("a", 1)}},
		{"\"x\"\n\"y\"", []api.Token{str("x", 1), str("y", 2)}},
		{"<=>=!==&&||", []api.Token{mark("<", 1), mark("=", 1), mark(">", 1), mark("=", 1), mark("!", 1), mark("=", 1), mark("=", 1), mark("&", 1), mark("&", 1), mark("|", 1), mark("|", 1)}},
		{"/* //", []api.Token{mark("/", 1), mark("*", 1), mark("/", 1), mark("/", 1)}},
		{"a.b_1,c", []api.Token{name("a", 1), mark(".", 1), name("b_1", 1), mark(",", 1), name("c", 1)}},
		{"1.5/2", []api.Token{num("1", 1, 1), mark(".", 1), num("5", 5, 1), mark("/", 1), num("2", 2, 1)}},
		{"+1", []api.Token{mark("+", 1), num("1", 1, 1)}},
		{"0 0x0", []api.Token{num("0", 0, 1), num("0x0", 0, 1)}},
		{"abcdefghijklmnop 9007199254740992 -0x20000000000000", []api.Token{name("abcdefghijklmnop", 1), num("9007199254740992", most, 1), num("-0x20000000000000", -most, 1)}},
	} {
		if l, line, e := lex.Tokens(x.s); !slices.Equal(l, x.want) || line != 0 || e != api.OK {
			t.Errorf("%q: %+v %d %v", x.s, l, line, e)
		}
	}
}

// P5.1
func TestTokensOfMarks(t *testing.T) {
	var want []api.Token
	for i := range len(marks) {
		one := marks[i : i+1]
		if l, line, e := lex.Tokens(one); !slices.Equal(l, []api.Token{mark(one, 1)}) || line != 0 || e != api.OK {
			t.Errorf("%s: %+v %d %v", one, l, line, e)
		}
		if l, line, e := lex.Tokens("a\n" + one + "1"); !slices.Equal(l, []api.Token{name("a", 1), mark(one, 2), num("1", 1, 2)}) || line != 0 || e != api.OK {
			t.Errorf("%s: %+v %d %v", one, l, line, e)
		}
		want = append(want, mark(one, 1))
	}
	if l, line, e := lex.Tokens(marks); !slices.Equal(l, want) || line != 0 || e != api.OK {
		t.Errorf("%+v %d %v", l, line, e)
	}
}

// P5.1
func TestTokensWithErrors(t *testing.T) {
	for _, x := range []struct {
		s    string
		line int
		e    api.Errno
	}{
		{"A", 1, api.ErrSyntax}, {"a B", 1, api.ErrSyntax}, {"aB", 1, api.ErrSyntax}, {"_", 1, api.ErrSyntax}, {"_a", 1, api.ErrSyntax}, {"a\n$", 2, api.ErrSyntax},
		{"a\n\n\\", 3, api.ErrSyntax}, {"a ' b", 1, api.ErrSyntax}, {"a\r\nb", 1, api.ErrSyntax}, {"\n\x00", 2, api.ErrSyntax}, {"\x0b", 1, api.ErrSyntax}, {"\x0c", 1, api.ErrSyntax},
		{"# é\né", 2, api.ErrSyntax}, {"#\n#\n\n@", 4, api.ErrSyntax},
		// Wrong names and numbers.
		{"abcdefghijklmnopq", 1, api.ErrSyntax}, {"a\nabcdefghijklmnopq\n", 2, api.ErrSyntax}, {"007", 1, api.ErrSyntax}, {"-0", 1, api.ErrSyntax}, {"0x", 1, api.ErrSyntax},
		{"-", 1, api.ErrSyntax}, {"5 - 3", 1, api.ErrSyntax}, {"5--3", 1, api.ErrSyntax}, {"--3", 1, api.ErrSyntax}, {"-\n3", 1, api.ErrSyntax}, {"-a", 1, api.ErrSyntax},
		{"-\"a\"", 1, api.ErrSyntax}, {"5a", 1, api.ErrSyntax}, {"5_", 1, api.ErrSyntax}, {"1_000", 1, api.ErrSyntax}, {"0xg", 1, api.ErrSyntax}, {"0x1F", 1, api.ErrSyntax}, {"0X1", 1, api.ErrSyntax},
		{"\n-0x0", 2, api.ErrSyntax}, {"1\n2\n00", 3, api.ErrSyntax}, {"9007199254740993a", 1, api.ErrSyntax}, {"09007199254740993", 1, api.ErrSyntax},
		// Numbers out of range.
		{"9007199254740993", 1, api.ErrRange}, {"-9007199254740993", 1, api.ErrRange}, {"a =\n0x20000000000001;", 2, api.ErrRange}, {"\n\n-0x20000000000001", 3, api.ErrRange},
		{strings.Repeat("9", 5000), 1, api.ErrRange},
		// Wrong strings are reported at their beginning.
		{`"`, 1, api.ErrSyntax}, {`"a`, 1, api.ErrSyntax}, {`a "b" "c`, 1, api.ErrSyntax}, {"\n\"a\n\nb\"\n", 2, api.ErrSyntax}, {"\n\"a\n\nb\n", 2, api.ErrSyntax}, {"\"a\nb", 1, api.ErrSyntax},
		{`"\"`, 1, api.ErrSyntax}, {`"a\" b`, 1, api.ErrSyntax}, {`"\`, 1, api.ErrSyntax}, {`"\t"`, 1, api.ErrSyntax}, {"\"\t\"", 1, api.ErrSyntax}, {`"\xFF"`, 1, api.ErrSyntax}, {`"é"`, 1, api.ErrSyntax},
		{"a\n\"\x7f\"", 2, api.ErrSyntax}, {"\"# \n\"", 1, api.ErrSyntax}, {"\"\\\n\"\n", 1, api.ErrSyntax}, {`"\x2`, 1, api.ErrSyntax},
		// The first wrong token counts, whatever its error is.
		{"9007199254740993\nA", 1, api.ErrRange}, {"A\n9007199254740993", 1, api.ErrSyntax}, {"a\n00 9007199254740993", 2, api.ErrSyntax}, {"a\n9007199254740993 00", 2, api.ErrRange},
		{"9007199254740993\"", 1, api.ErrRange}, {"\"\n\"9007199254740993", 1, api.ErrSyntax}, {"\"9007199254740993", 1, api.ErrSyntax},
	} {
		if l, line, e := lex.Tokens(x.s); len(l) != 0 || line != x.line || e != x.e {
			t.Errorf("%.60q: %+v %d %v", x.s, l, line, e)
		}
	}
	for _, s := range foreign() {
		if l, line, e := lex.Tokens("# " + s + "\n" + s); len(l) != 0 || line != 2 || e != api.ErrSyntax {
			t.Errorf("%q: %+v %d %v", s, l, line, e)
		}
		if l, line, e := lex.Tokens("# a" + s + "\n \na" + s); len(l) != 0 || line != 3 || e != api.ErrSyntax {
			t.Errorf("%q: %+v %d %v", s, l, line, e)
		}
	}
}

// same compares what Tokens returns for s with the independent reading.
func same(t *testing.T, s string) {
	t.Helper()
	want, wrongLine, wrong := tokens(s)
	if l, line, e := lex.Tokens(s); !slices.Equal(l, want) || line != wrongLine || e != wrong {
		t.Errorf("%q: %+v %d %v, not %+v %d %v", s, l, line, e, want, wrongLine, wrong)
	}
}

// P5.1
func TestTokensOfShortStrings(t *testing.T) {
	for _, s := range twoBytes() {
		same(t, s)
	}
	for _, s := range words(5, "a", "0", "x", "-", "_", `"`, `\`, "#", "\n") {
		same(t, s)
	}
	for _, s := range words(3, "ab", "5", "-7", "0x1f", `"c d"`, `"`, `\"`, "# e", "\n", "\t", " ", ";", "(", "é", "00", "9007199254740993") {
		same(t, s)
	}
}

// P5.1
func TestTokensOfRandomStrings(t *testing.T) {
	random := rand.New(rand.NewSource(51))
	parts := []string{"a", "b_1", "abcdefghijklmnop", "0", "5", "-31", "0xff", "-0x20000000000000", `"s"`, `"\"\\\n\x07"`, `"# no comment"`, `""`,
		"\n", "\n\n", " ", "\t", "# a comment\n", "#\n", "(", ")", ";", "=", ",", "|"}
	wrong := []string{"A", `"`, "-", "00", "9007199254740993", `"\q"`, "\r", "é", "abcdefghijklmnopq", "\"\n\""}
	for range 20000 {
		s := ""
		for range random.Intn(20) {
			s += parts[random.Intn(len(parts))]
			// A separator most of the time, for otherwise most of the texts were wrong early.
			if random.Intn(8) > 0 {
				s += []string{" ", "\n", ";", "\t "}[random.Intn(4)]
			}
			if random.Intn(40) == 0 {
				s += wrong[random.Intn(len(wrong))]
			}
		}
		same(t, s)
		same(t, randomBytes(random, random.Intn(6)))
	}
}

// P5.1
func TestTokensAtTheLimit(t *testing.T) {
	const lines = api.MaxText/2 - 1
	l, line, e := lex.Tokens(strings.Repeat("a\n", lines) + "b;")
	if len(l) != lines+2 || line != 0 || e != api.OK {
		t.Fatal(len(l), line, e)
	}
	for i, x := range l[:lines] {
		if x != name("a", i+1) {
			t.Fatalf("%d: %+v", i, x)
		}
	}
	if l[lines] != name("b", lines+1) || l[lines+1] != mark(";", lines+1) {
		t.Errorf("%+v", l[lines:])
	}
	for _, s := range []string{strings.Repeat(" ", api.MaxText), strings.Repeat("\n", api.MaxText), strings.Repeat("#", api.MaxText)} {
		if l, line, e := lex.Tokens(s); len(l) != 0 || line != 0 || e != api.OK {
			t.Errorf("%.4q: %+v %d %v", s, l, line, e)
		}
	}
	long := strings.Repeat("q", api.MaxText-2)
	if l, line, e := lex.Tokens(`"` + long + `"`); !slices.Equal(l, []api.Token{str(long, 1)}) || line != 0 || e != api.OK {
		t.Error("a long string:", len(l), line, e)
	}
	for _, s := range []string{strings.Repeat("a", api.MaxText), strings.Repeat("7", api.MaxText-1) + "x", `"` + long + "q", strings.Repeat("\n", api.MaxText-1) + "A"} {
		want := 1 + strings.Count(s, "\n")
		if l, line, e := lex.Tokens(s); len(l) != 0 || line != want || e != api.ErrSyntax {
			t.Errorf("%.4q: %d tokens, %d %v", s, len(l), line, e)
		}
	}
	if l, line, e := lex.Tokens(strings.Repeat("\n", 9) + strings.Repeat("7", api.MaxText-9)); len(l) != 0 || line != 10 || e != api.ErrRange {
		t.Errorf("a long number: %d tokens, %d %v", len(l), line, e)
	}
}

// P5.1
func TestTokensBeyondTheLimit(t *testing.T) {
	for _, length := range []int{api.MaxText + 1, api.MaxText + 2, 2 * api.MaxText} {
		for _, s := range []string{" ", "\n", "#", "a", "a ", "A", `"`, "-", "0", "1", "\xff", "9007199254740993 ", "\n$"} {
			if l, line, e := lex.Tokens(strings.Repeat(s, length)[:length]); len(l) != 0 || line != 0 || e != api.ErrLimit {
				t.Errorf("%d bytes %q: %d tokens, %d %v", length, s, len(l), line, e)
			}
		}
	}
}

// P5.1
func TestTokensAreNewMemory(t *testing.T) {
	const s = "a 5 \"b\" ;\n"
	first, _, _ := lex.Tokens(s)
	second, _, _ := lex.Tokens(s)
	clear(first[:cap(first)])
	if want := []api.Token{name("a", 1), num("5", 5, 1), str("b", 1), mark(";", 1)}; !slices.Equal(second, want) {
		t.Errorf("%+v", second)
	}
}

// P5.2
func TestText(t *testing.T) {
	for _, x := range []struct {
		l    []api.Token
		want string
	}{
		{nil, ""}, {[]api.Token{}, ""}, {[]api.Token{name("a", 1)}, "a"}, {[]api.Token{name("abcdefghijklmnop", 1)}, "abcdefghijklmnop"}, {[]api.Token{str("", 1)}, `""`},
		{[]api.Token{name("a2", 1), mark("=", 1), num("-0x1f", -31, 1), mark(";", 1)}, "a2 = -31 ;"},
		{[]api.Token{num("0", 0, 1), num("0x0", 0, 1), num("5", 5, 1), num("-3", -3, 1), num("0xff", 255, 1), num("-0xff", -255, 1)}, "0 0 5 -3 255 -255"},
		{[]api.Token{num("9007199254740992", most, 1), num("-9007199254740992", -most, 1), num("0x20000000000000", most, 1), num("-0x20000000000000", -most, 1)},
			"9007199254740992 -9007199254740992 9007199254740992 -9007199254740992"},
		{[]api.Token{str("a\n\"\xff", 1), str("b # c", 1), str(`\n`, 1), str("é\t", 1)}, `"a\n\"\xff" "b # c" "\\n" "\xc3\xa9\x09"`},
		// The line has no meaning here.
		{[]api.Token{name("a", 0), name("b", 7), name("c", -1), mark("(", math.MinInt), num("1", 1, math.MaxInt), str("s", 3)}, `a b c ( 1 "s"`},
	} {
		if s, e := lex.Text(x.l); s != x.want || e != api.OK {
			t.Errorf("%+v: %q %v", x.l, s, e)
		}
	}
	for i := range len(marks) {
		one := marks[i : i+1]
		if s, e := lex.Text([]api.Token{mark(one, 1), mark(one, 2)}); s != one+" "+one || e != api.OK {
			t.Errorf("%s: %q %v", one, s, e)
		}
	}
}

// invalid returns tokens that are not valid.
func invalid() []api.Token {
	l := []api.Token{{}, {Text: "a"}, {Text: "5", Value: 5}, {Kind: 5, Text: "a"}, {Kind: -1, Text: "a"}, {Kind: 1 << 32, Text: "a"}, {Kind: 1<<32 + 1, Text: "a"},
		{Kind: math.MaxInt, Text: ";"}, {Kind: math.MinInt, Text: ";"}, {Kind: 6, Text: "5", Value: 5},
		{Kind: api.TkName, Text: "a", Value: 1}, {Kind: api.TkName, Text: "a", Value: -1}, {Kind: api.TkName, Text: "5", Value: 5},
		{Kind: api.TkString, Value: 1}, {Kind: api.TkString, Text: "5", Value: 5}, {Kind: api.TkString, Text: "a", Value: math.MinInt},
		{Kind: api.TkMark, Text: ";", Value: 1}, {Kind: api.TkMark, Text: "(", Value: -1}, {Kind: api.TkMark, Text: "5", Value: 5},
		{Kind: api.TkNumber, Text: "5"}, {Kind: api.TkNumber, Text: "5", Value: 6}, {Kind: api.TkNumber, Text: "5", Value: -5}, {Kind: api.TkNumber, Text: "0", Value: 1},
		{Kind: api.TkNumber, Text: "0xa", Value: 11}, {Kind: api.TkNumber, Text: "10", Value: 16},
		{Kind: api.TkNumber, Text: "9007199254740993", Value: most + 1}, {Kind: api.TkNumber, Text: "-9007199254740993", Value: -most - 1}, {Kind: api.TkNumber, Text: "0x20000000000001", Value: most + 1},
		{Kind: api.TkNumber, Text: "9007199254740993", Value: most}, {Kind: api.TkNumber, Text: "9007199254740993"}, {Kind: api.TkNumber, Text: "007", Value: 7}, {Kind: api.TkNumber, Text: "+5", Value: 5},
	}
	for _, s := range []string{"", "A", "aB", "5", "_a", "a b", "a ", "abcdefghijklmnopq", ";", "-", "é", "a\n", `"a"`} {
		l = append(l, name(s, 1))
	}
	for _, s := range []string{"", "-", "-0", "00", "0x", "-0x0", "0x00", "a", "x", ";", " 0", "0 ", `"0"`, "zero"} {
		l = append(l, num(s, 0, 1))
	}
	for c := range 256 {
		if !strings.Contains(marks, string([]byte{byte(c)})) {
			l = append(l, mark(string([]byte{byte(c)}), 1))
		}
	}
	for _, s := range []string{"", "()", "[]", "<>", "((", "; ", " ;", ";\n", "=,", "&|", marks, "\u0128", "\uff08", "#", "-", "_", "a", "ab", "5"} {
		l = append(l, mark(s, 1))
	}
	return l
}

// P5.2
func TestTextOfInvalidTokens(t *testing.T) {
	for _, x := range invalid() {
		for _, l := range [][]api.Token{{x}, {x, name("a", 1)}, {name("a", 1), x}, {str("s", 1), x, mark(";", 1)}} {
			if s, e := lex.Text(l); s != "" || e != api.ErrArg {
				t.Errorf("%+v: %q %v", l, s, e)
			}
		}
	}
	// The limit is named after the invalid token, wherever that is.
	long := str(strings.Repeat("q", api.MaxText), 1)
	for _, l := range [][]api.Token{{long, name("A", 1)}, {name("A", 1), long}, {long, long, num("5", 6, 1)}, {{Kind: api.TkString, Text: long.Text, Value: 1}}} {
		if s, e := lex.Text(l); s != "" || e != api.ErrArg {
			t.Errorf("%d bytes %v", len(s), e)
		}
	}
}

// P5.2
func TestTextAtTheLimit(t *testing.T) {
	marksOf := func(n int) []api.Token { return slices.Repeat([]api.Token{mark(";", 1)}, n) }
	plain := func(n int) api.Token { return str(strings.Repeat("q", n), 1) }
	for _, l := range [][]api.Token{
		append(marksOf(api.MaxText/2-1), num("10", 10, 1)), {plain(api.MaxText - 2)}, {plain(api.MaxText - 4), name("a", 1)}, {name("a", 1), plain(api.MaxText - 4)},
		{str(strings.Repeat("\xff", api.MaxText/4-1), 1), mark(";", 1)}, {str(strings.Repeat("\n", api.MaxText/2-1), 1)}, {str("\""+strings.Repeat("\\", api.MaxText/2-2), 1)},
		// The hexadecimal digits are longer than the decimal ones.
		{plain(api.MaxText - 5), num("0x63", 99, 1)}, {num("-0x9", -9, 1), plain(api.MaxText - 5)},
	} {
		s, e := lex.Text(l)
		if len(s) != api.MaxText || e != api.OK {
			t.Errorf("%d bytes %v", len(s), e)
		}
		if r, line, e := lex.Tokens(s); len(r) != len(l) || line != 0 || e != api.OK {
			t.Errorf("%d tokens, %d %v", len(r), line, e)
		}
	}
	for _, l := range [][]api.Token{
		marksOf(api.MaxText/2 + 1), append(marksOf(api.MaxText/2-1), num("100", 100, 1)), {plain(api.MaxText - 1)}, {plain(api.MaxText)}, {plain(api.MaxText + 1)}, {plain(4 * api.MaxText)},
		{plain(api.MaxText - 3), name("a", 1)}, {name("a", 1), plain(api.MaxText - 3)}, {plain(api.MaxText - 2), name("a", 1)}, {plain(api.MaxText - 2), str("", 1)},
		{str(strings.Repeat("\xff", api.MaxText/4), 1)}, {str(strings.Repeat("\xff", api.MaxText/4-1), 1), name("aa", 1)}, {str(strings.Repeat("\n", api.MaxText/2), 1)}, {str("a"+strings.Repeat("\"", api.MaxText/2-1), 1)},
		{str(strings.Repeat("\x00", api.MaxText), 1), name("a", 1)},
		// The decimal digits are longer than the hexadecimal ones.
		{plain(api.MaxText - 19), num("0x20000000000000", most, 1), mark(";", 1)}, {plain(api.MaxText - 4), num("10", 10, 1)}, marksOf(api.MaxText),
	} {
		if s, e := lex.Text(l); s != "" || e != api.ErrLimit {
			t.Errorf("%d tokens: %d bytes %v", len(l), len(s), e)
		}
	}
}

// P5.2
func TestTextKeepsItsArgument(t *testing.T) {
	l := []api.Token{name("a", 4), num("0x10", 16, 5), str("\n", 6), mark(";", 7)}
	before := slices.Clone(l)
	if s, e := lex.Text(l); s != `a 16 "\n" ;` || e != api.OK || !slices.Equal(l, before) {
		t.Errorf("%q %v %+v", s, e, l)
	}
}

// randomToken returns a valid token.
func randomToken(random *rand.Rand) api.Token {
	line := random.Intn(100) - 10
	switch random.Intn(5) {
	case 0:
		b := []byte{alpha[random.Intn(20)]}
		for range random.Intn(api.MaxName) {
			b = append(b, alpha[random.Intn(len(alpha))])
		}
		return name(string(b), line)
	case 1:
		n := random.Intn(most+1) >> random.Intn(54)
		if random.Intn(2) == 0 {
			n = -n
		}
		return num(strconv.Itoa(n), n, line)
	case 2:
		n := random.Intn(most+1) >> random.Intn(54)
		return num("0x"+strconv.FormatInt(int64(n), 16), n, line)
	case 3:
		return str(randomBytes(random, random.Intn(20)), line)
	}
	i := random.Intn(len(marks))
	return mark(marks[i:i+1], line)
}

// P5.7
func TestTokensOfText(t *testing.T) {
	random := rand.New(rand.NewSource(57))
	for range 5000 {
		var l, want []api.Token
		for range random.Intn(30) {
			x := randomToken(random)
			l = append(l, x)
			x.Line = 1
			if x.Kind == api.TkNumber {
				x.Text = strconv.Itoa(x.Value)
			}
			want = append(want, x)
		}
		s, e := lex.Text(l)
		if e != api.OK {
			t.Fatalf("%+v: %v", l, e)
		}
		if r, line, e := lex.Tokens(s); !slices.Equal(r, want) || line != 0 || e != api.OK {
			t.Errorf("%q: %+v %d %v, not %+v", s, r, line, e, want)
		}
		if again, e := lex.Text(want); again != s || e != api.OK {
			t.Errorf("%q: %q %v", s, again, e)
		}
	}
}

// P5.7
func TestTokensOfTextOfEveryPair(t *testing.T) {
	l := []api.Token{name("a", 1), name("z9_", 1), num("0", 0, 1), num("-1", -1, 1), num("9007199254740992", most, 1), str("", 1), str("\"", 1), str("\\", 1), str("#", 1), str("a b", 1), str("\n\t", 1)}
	for i := range len(marks) {
		l = append(l, mark(marks[i:i+1], 1))
	}
	for _, a := range l {
		for _, b := range l {
			s, e := lex.Text([]api.Token{a, b})
			if e != api.OK {
				t.Fatalf("%+v %+v: %v", a, b, e)
			}
			if r, line, e := lex.Tokens(s); !slices.Equal(r, []api.Token{a, b}) || line != 0 || e != api.OK {
				t.Errorf("%q: %+v %d %v", s, r, line, e)
			}
		}
	}
}

// P5.7
func TestUnquoteOfQuote(t *testing.T) {
	random := rand.New(rand.NewSource(58))
	l := slices.Concat(twoBytes(), foreign(), words(5, `"`, `\`, "n", "x", "4", "\n", "é"), []string{strings.Repeat("\xff\"\\\na", api.MaxText/4)})
	for range 2000 {
		l = append(l, randomBytes(random, random.Intn(200)))
	}
	for _, s := range l {
		if r, e := lex.Unquote(lex.Quote(s)); r != s || e != api.OK {
			t.Errorf("%.40q: %.40q %v", s, r, e)
		}
	}
}
