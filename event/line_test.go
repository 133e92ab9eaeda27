package event_test

import (
	"math/big"
	"math/rand"
	"regexp"
	"slices"
	"strconv"
	"strings"
	"testing"

	"signalbench/api"
	"signalbench/event"
)

// A decimal number, and a byte that Quote writes as \xNN: neither a line feed nor one that represents itself.
const (
	decimalForm = `(0|-?[1-9][0-9]*)`
	codeForm    = `\\x(?:0[0-9b-f]|1[0-9a-f]|7f|[89a-f][0-9a-f])`
)

// The line of the document as a regular expression, an independent reading of it, and the representations in its data.
var (
	lineForm = regexp.MustCompile(`\A(level|bit|byte|mark|frame|packet|command|pair)` + strings.Repeat(" "+decimalForm, 5) + ` "((?:[ !#-\[\]-~]|\\["\\n]|` + codeForm + `)*)"\z`)
	partForm = regexp.MustCompile(`\\x..|\\.|.`)
)

// names returns the names of the kinds from 1 to 8.
func names() []string {
	return []string{"level", "bit", "byte", "mark", "frame", "packet", "command", "pair"}
}

// quoted returns s as a line contains it.
func quoted(s string) string {
	b := []byte{'"'}
	for i := range len(s) {
		switch c := s[i]; {
		case c == '"' || c == '\\':
			b = append(b, '\\', c)
		case c == 10:
			b = append(b, '\\', 'n')
		case c < 32 || c > 126:
			b = append(b, '\\', 'x', "0123456789abcdef"[c>>4], "0123456789abcdef"[c&15])
		default:
			b = append(b, c)
		}
	}
	return string(append(b, '"'))
}

// written returns what Line must return for a valid event.
func written(e api.Event) string {
	s := names()[e.Kind-1]
	for _, n := range []int{e.From, e.To, e.Value, e.Aux, e.Fault} {
		s += " " + big.NewInt(int64(n)).String()
	}
	return s + " " + quoted(e.Data)
}

// parsed returns what Parse must return for a line.
func parsed(line string) (api.Event, api.Errno) {
	words := lineForm.FindStringSubmatch(line)
	if words == nil {
		return api.Event{}, api.ErrSyntax
	}
	var n [5]int
	limits := [5][2]int{{0, api.MaxTime}, {0, api.MaxTime}, {-most, most}, {-most, most}, {0, 12}}
	for i := range n {
		x, _ := new(big.Int).SetString(words[2+i], 10)
		if x.Cmp(big.NewInt(int64(limits[i][0]))) < 0 || x.Cmp(big.NewInt(int64(limits[i][1]))) > 0 {
			return api.Event{}, api.ErrRange
		}
		n[i] = int(x.Int64())
	}
	var data []byte
	for _, part := range partForm.FindAllString(words[7], -1) {
		c := part[len(part)-1]
		switch {
		case len(part) == 4:
			x, _ := strconv.ParseUint(part[2:], 16, 8)
			c = byte(x)
		case part == `\n`:
			c = 10
		}
		data = append(data, c)
	}
	if n[0] > n[1] || len(data) > api.MaxData {
		return api.Event{}, api.ErrRange
	}
	return ev(1+slices.Index(names(), words[1]), n[0], n[1], n[2], n[3], string(data), n[4]), api.OK
}

// P7.5
func TestLine(t *testing.T) {
	for _, x := range []struct {
		e    api.Event
		want string
	}{
		{ev(3, 10, 20, 65, 0, "", 0), `byte 10 20 65 0 0 ""`}, {ev(1, 0, 1, 2, 3, "", 0), `level 0 1 2 3 0 ""`}, {ev(2, 0, 4, 1, 0, "", 0), `bit 0 4 1 0 0 ""`}, {ev(4, 5, 5, 3, 0, "", 0), `mark 5 5 3 0 0 ""`}, {ev(5, 1, 2, 3, 4, "a b", 6), `frame 1 2 3 4 6 "a b"`},
		{ev(6, 1, 2, -3, -4, "\"\\\n\xff", 12), `packet 1 2 -3 -4 12 "\"\\\n\xff"`}, {ev(7, 0, api.MaxTime, most, -most, "\x00\t~", 10), `command 0 1099511627776 9007199254740992 -9007199254740992 10 "\x00\x09~"`}, {ev(8, 100, 100, -1, 0, "é", 1), `pair 100 100 -1 0 1 "\xc3\xa9"`},
	} {
		if s, e := event.Line(x.e); s != x.want || e != api.OK {
			t.Errorf("%#v: %s %v", x.e, s, e)
		}
		if e, f := event.Parse(x.want); e != x.e || f != api.OK {
			t.Errorf("%s: %#v %v", x.want, e, f)
		}
	}
}

// P7.5
func TestLineOfInvalidEvents(t *testing.T) {
	for _, x := range wrong() {
		if s, e := event.Line(x); s != "" || e != api.ErrArg {
			t.Errorf("%s: %.200s %v", brief(x), s, e)
		}
	}
}

// lines returns a valid event's line with each of its words replaced by others.
func lines(place int, others ...string) []string {
	var l []string
	for _, other := range others {
		words := []string{"frame", "3", "9", "1", "2", "4", `"x y"`}
		words[place] = other
		l = append(l, strings.Join(words, " "))
	}
	return l
}

// misspelt returns words that are not decimal numbers.
func misspelt() []string {
	huge := strings.Repeat("9", 1000)
	return []string{"", "-", "-0", "00", "01", "-01", "007", "-007", "+1", "+0", "--1", "- 1", "1-", "0x1", "0x0", "-0x1", "0x", "0xa", "0x1f", "1x", "x", "a", "1a", "a1", "1.0", "1e3", "1_0", "_1", "1,0", "1\n", "\n1", "\t1", "1\t", "1\x00", "\x001", "\"1\"", "1\r",
		"٣", "１", "1é", "é", "\xff", "1\xff", "level", "0" + huge, "-0" + huge, huge + "a", "0x" + strings.Repeat("f", 1000), "0x20000000000001", "+" + huge, "9007199254740993x", "0b1", "0o7", "1 ", " 1", "1 1"}
}

// P7.6
func TestParse(t *testing.T) {
	for i, name := range names() {
		if e, f := event.Parse(name + ` 0 0 0 0 0 ""`); e != ev(i+1, 0, 0, 0, 0, "", 0) || f != api.OK {
			t.Errorf("%s: %#v %v", name, e, f)
		}
	}
	for _, x := range []struct {
		line string
		want api.Event
	}{
		{`bit 0 4 1 0 0 ""`, ev(2, 0, 4, 1, 0, "", 0)}, {`frame 1 2 -3 4 5 "6"`, ev(5, 1, 2, -3, 4, "6", 5)}, {`frame 1 2 3 4 5 " "`, ev(5, 1, 2, 3, 4, " ", 5)}, {`frame 1 2 3 4 5 "  a   b "`, ev(5, 1, 2, 3, 4, "  a   b ", 5)}, {`frame 1 2 3 4 5 " x 0 0x1 -0 "`, ev(5, 1, 2, 3, 4, " x 0 0x1 -0 ", 5)},
		{`byte 1 2 3 4 5 "\"\\\n\x00\x7f\x80\xff"`, ev(3, 1, 2, 3, 4, "\"\\\n\x00\x7f\x80\xff", 5)}, {`byte 1 2 3 4 5 "\\x41"`, ev(3, 1, 2, 3, 4, `\x41`, 5)}, {`byte 1 2 3 4 5 "\\n"`, ev(3, 1, 2, 3, 4, `\n`, 5)}, {`byte 1 2 3 4 5 "\" \""`, ev(3, 1, 2, 3, 4, `" "`, 5)}, {`byte 1 2 3 4 5 "bit 0 4 1 0 0 \"\""`, ev(3, 1, 2, 3, 4, `bit 0 4 1 0 0 ""`, 5)},
		{`pair 1099511627776 1099511627776 9007199254740992 -9007199254740992 12 "~"`, ev(8, api.MaxTime, api.MaxTime, most, -most, "~", 12)}, {`pair 0 1099511627776 -9007199254740992 9007199254740992 12 "!"`, ev(8, 0, api.MaxTime, -most, most, "!", 12)}, {`level 10 100 -10 -100 10 ""`, ev(1, 10, 100, -10, -100, "", 10)},
	} {
		if e, f := event.Parse(x.line); e != x.want || f != api.OK {
			t.Errorf("%s: %#v %v", x.line, e, f)
		}
	}
}

// P7.6
func TestParseOfOtherForms(t *testing.T) {
	l := []string{"", " ", "      ", "       ", "bit", `bit 0 1 01 0 0 ""`, `bit 0 1 1 0 0`, `bit 0 1 1 0 0 `, `bit 0 1 1 0 ""`, `0 1 1 0 0 ""`, `bit 0 1 1 0 0 0 ""`, `bit 0 1 1 0 0 "" ""`, `bit 0 1 1 0 0 "" `, `bit 0 1 1 0 0 ""` + "\n", ` bit 0 1 1 0 0 ""`, "\n" + `bit 0 1 1 0 0 ""`,
		"bit\t0 1 1 0 0 \"\"", "bit 0\t1 1 0 0 \"\"", "bit 0 1 1 0 0\t\"\"", "bit 0 1 1 0\n0 \"\"", `bit  0 1 1 0 0 ""`, `bit 0  1 1 0 0 ""`, `bit 0 1  1 0 0 ""`, `bit 0 1 1  0 0 ""`, `bit 0 1 1 0  0 ""`, `bit 0 1 1 0 0  ""`, `bit  1 1 0 0 ""`, `bit 0 1 1 0 0""`, `bit 0 1 1 0 ""0`, `"" 0 1 1 0 0 bit`, `bit 0 1 1 0 0 "" # end`, `bit,0,1,1,0,0,""`,
		`byte 10 20 65 0 "" 0`, "bit\u00a00 1 1 0 0 \"\"", "\ufeffbit 0 1 1 0 0 \"\"", `bit 0 1 1 0 0 ""bit 0 1 1 0 0 ""`, `bit 0 1 1 0 0 ""` + "\x00"}
	l = append(l, lines(0, "", "Frame", "FRAME", "frames", "fram", "f", "5", "0", "1", "8", "9", "x", "lev", "levels", "bits", "bytes", "marks", "pairs", "event", "run", "token", "frame\x00", "framé", "none", "level bit", `"frame"`, "levelbit", "-", "evframe")...)
	for place := 1; place <= 5; place++ {
		l = append(l, lines(place, misspelt()...)...)
	}
	l = append(l, lines(6, "", " ", `"`, "a", "0", `"a`, `a"`, `"a"b`, `"a" "b"`, `"a"b"`, `"""`, `""""`, ` "a"`, `"a" `, `"a"`+"\n", `'a'`, "`a`", `"\"`, `"\\\"`, `"\`, `\"\"`, `"\t"`, `"\r"`, `"\a"`, `"\0"`, `"\u0041"`, `"\x"`, `"\x4"`, `"\xg0"`, `"\X80"`, "\"\n\"", "\"\t\"", "\"\x00\"", "\"\x7f\"", "\"\x80\"", "\"\xff\"", `"é"`,
		// Quote writes these bytes differently.
		`"\x41"`, `"\x20"`, `"\x7e"`, `"\x0a"`, `"\x22"`, `"\x5c"`, `"\x30"`, `"a\x61"`, `"\xff\x41"`, `"\n\x0a"`, `"\xFF"`, `"\xfF"`, `"\xAa"`, `"\x0A"`, `"\x0B"`)...)
	for _, s := range l {
		if e, f := event.Parse(s); e != (api.Event{}) || f != api.ErrSyntax {
			t.Errorf("%.100q: %#v %v", s, e, f)
		}
	}
}

// P7.6
func TestParseOutOfRange(t *testing.T) {
	huge := []string{"9007199254740993", "-9007199254740993", "9223372036854775807", "9223372036854775808", "-9223372036854775808", "-9223372036854775809", "18446744073709551615", "18446744073709551616", "18446744073709551617", "18446744073709551620", "-18446744073709551612",
		"340282366920938463463374607431768211456", strings.Repeat("9", 1000), "-" + strings.Repeat("9", 1000), "1" + strings.Repeat("0", 100000)}
	var l []string
	for place := 1; place <= 5; place++ {
		l = append(l, lines(place, huge...)...)
	}
	for _, n := range []string{"-1", "-2", "1099511627777", "9007199254740992"} {
		l = append(l, lines(1, n)...)
		l = append(l, lines(2, n)...)
	}
	l = append(l, lines(1, "10", "1099511627776")...)
	l = append(l, lines(2, "0", "1", "2")...)
	l = append(l, lines(5, "-1", "13", "14", "256", "4294967296", "4294967297")...)
	for _, part := range []string{"a", " ", `\xff`, `\n`, `\"`} {
		l = append(l, lines(6, `"`+strings.Repeat(part, api.MaxData+1)+`"`)...)
	}
	l = append(l, lines(6, `"`+strings.Repeat(`\xc3\xa9`, api.MaxData/2)+`a"`, `"`+strings.Repeat("a", 1<<20)+`"`)...)
	for _, s := range l {
		if e, f := event.Parse(s); e != (api.Event{}) || f != api.ErrRange {
			t.Errorf("%.100q: %s %v", s, brief(e), f)
		}
	}
}

// P7.6
func TestParseReportsTheSyntaxFirst(t *testing.T) {
	for _, beyond := range []string{"-1", "9007199254740993", strings.Repeat("9", 100)} {
		for i := 1; i <= 5; i++ {
			for j := range 7 {
				words := []string{"frame", "3", "9", "1", "2", "4", `"x y"`}
				words[i] = beyond
				if i == j {
					continue
				}
				words[j] = []string{"fram", "01", "-0", "0x1", "+1", "", `"\x41"`}[j]
				s := strings.Join(words, " ")
				if e, f := event.Parse(s); e != (api.Event{}) || f != api.ErrSyntax {
					t.Errorf("%q: %#v %v", s, e, f)
				}
			}
		}
	}
	long := strings.Repeat("a", api.MaxData+1)
	for _, s := range []string{`frame 9 3 1 2 4 "`, `frame 9 3 1 2 13 "\x41"`, `fram 9 3 1 2 4 ""`, `frame 3 9 1 2 04 "` + long + `"`, `frame 3 9 1 2 4 "` + long + `\x41"`, `frame 3 9 1 2 4 "` + long, `frame 3 9 1 2 "` + long + `"`} {
		if e, f := event.Parse(s); e != (api.Event{}) || f != api.ErrSyntax {
			t.Errorf("%.100q: %s %v", s, brief(e), f)
		}
	}
}

// P7.6
func TestParseOfOneByteMore(t *testing.T) {
	for _, line := range []string{`byte 10 20 65 0 0 ""`, `frame 3 9 -1 2 4 "x\n\xff"`} {
		for i := range len(line) + 1 {
			for c := range 256 {
				// Each byte is inserted, and replaces another one.
				for _, end := range []int{i, min(i+1, len(line))} {
					same(t, line[:i]+string([]byte{byte(c)})+line[end:])
				}
			}
			same(t, line[:i]+line[min(i+1, len(line)):])
			same(t, line[:i])
			same(t, line[i:])
		}
	}
}

// P7.6
func TestParseOfAllSequences(t *testing.T) {
	for c := range 256 {
		for _, form := range []string{"0123456789abcdef", "0123456789ABCDEF"} {
			same(t, `byte 1 2 3 4 5 "\x`+string([]byte{form[c>>4], form[c&15]})+`"`)
		}
		same(t, `byte 1 2 3 4 5 "`+string([]byte{byte(c)})+`"`)
		same(t, `byte 1 2 3 4 5 "\`+string([]byte{byte(c)})+`"`)
	}
}

// P7.6
func TestParseOfMixedLines(t *testing.T) {
	parts := []string{"level", "bit", "byte", "pair", " ", " ", " ", "  ", "0", "1", "-1", "-", "9007199254740992", "9007199254740993", "1099511627776", "1099511627777", "12", "13", "x", "0x1", `""`, `"a"`, `"`, `\`, `\x41`, `\xff`, `\n`, "\n", "é"}
	r := rand.New(rand.NewSource(76))
	for range 100000 {
		words := strings.SplitN(written(valid(r)), " ", 7)
		for range r.Intn(3) {
			words[r.Intn(7)] = parts[r.Intn(len(parts))]
		}
		if i := r.Intn(20); i < 7 {
			words[i] += parts[r.Intn(len(parts))]
		}
		same(t, strings.Join(words, " "))
	}
}

// same compares Parse with the independent reading.
func same(t *testing.T, line string) {
	t.Helper()
	want, f := parsed(line)
	e, g := event.Parse(line)
	if e != want || g != f {
		t.Errorf("%q: %#v %v, not %#v %v", line, e, g, want, f)
	}
	// What is accepted is exactly what Line writes.
	if s, h := event.Line(e); g == api.OK && (s != line || h != api.OK) {
		t.Errorf("%q: %q %v", line, s, h)
	}
}

// P7.5, P7.6, P7.8
func TestParseOfLine(t *testing.T) {
	r := rand.New(rand.NewSource(77))
	l := right()
	for range 20000 {
		l = append(l, valid(r))
	}
	for c := range 256 {
		l = append(l, ev(api.EvPacket, 1, 2, 3, 4, string([]byte{byte(c)}), 5), ev(api.EvPacket, 1, 2, 3, 4, string([]byte{byte(c), 'x', byte(c)}), 5))
	}
	for _, x := range l {
		s, e := event.Line(x)
		if s != written(x) || e != api.OK {
			t.Errorf("%s: %.200s %v", brief(x), s, e)
		}
		if y, e := event.Parse(s); y != x || e != api.OK {
			t.Errorf("%.200s: %s %v", s, brief(y), e)
		}
		if strings.Contains(s, "\n") {
			t.Errorf("%s: several lines", brief(x))
		}
	}
}
