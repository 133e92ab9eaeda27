package vcd_test

import (
	"fmt"
	"math/big"
	"math/rand"
	"regexp"
	"slices"
	"strings"
	"testing"

	"signalbench/api"
	"signalbench/vcd"
)

const (
	end     = api.MaxTime
	mostLen = api.MaxText
)

// letters has a name for each channel of the greatest number of them, and one more.
const letters = "a b c d e f g h i j k l m n o p q"

// of returns the capture with these names, which blanks separate, and these levels and ticks, which alternate.
func of(names string, n ...int) api.Capture {
	c := api.Capture{Names: strings.Fields(names)}
	for i := 0; i < len(n); i += 2 {
		c.Runs = append(c.Runs, api.Run{Level: n[i], Ticks: n[i+1]})
	}
	return c
}

// channels returns a number of names.
func channels(n int) []string { return strings.Fields(letters)[:n] }

// many returns the capture of a number of channels with n runs of k ticks each whose levels are these, again and again.
func many(count, n, k int, levels ...int) api.Capture {
	c := api.Capture{Names: channels(count)}
	for i := range n {
		c.Runs = append(c.Runs, api.Run{Level: levels[i%len(levels)], Ticks: k})
	}
	return c
}

// sequences returns all lists of n numbers from 0 to the mask.
func sequences(n, mask int) [][]int {
	all := [][]int{nil}
	for range n {
		var longer [][]int
		for _, l := range all {
			for level := range mask + 1 {
				longer = append(longer, append(slices.Clone(l), level))
			}
		}
		all = longer
	}
	return all
}

// divided returns the levels of successive ticks, each k ticks long, as runs that end where the levels change and at
// the ticks whose bits are set.
func divided(levels []int, k, ends int) []api.Run {
	var l []api.Run
	for i, level := range levels {
		if i == 0 || level != levels[i-1] || ends>>i&1 == 1 {
			l = append(l, api.Run{Level: level})
		}
		l[len(l)-1].Ticks += k
	}
	return l
}

// drawn returns the textual form of levels of successive ticks, each k ticks long.
func drawn(names []string, levels []int, k int) string {
	s := "channels"
	for _, name := range names {
		s += " " + name
	}
	before := -1
	for i, level := range levels {
		if level != before {
			s += fmt.Sprintf("\n%d %s", i*k, characters(level, len(names)))
		}
		before = level
	}
	return s + fmt.Sprintf("\nend %d\n", len(levels)*k)
}

// characters returns the characters of a level, the one of channel 0 first.
func characters(level, count int) string {
	s := []byte(fmt.Sprintf("%0*b", count, level))
	slices.Reverse(s)
	return string(s)
}

// clean returns the capture with those runs joined that follow one of the same level.
func clean(c api.Capture) api.Capture {
	joined := api.Capture{Names: c.Names}
	for i, r := range c.Runs {
		if i > 0 && r.Level == c.Runs[i-1].Level {
			joined.Runs[len(joined.Runs)-1].Ticks += r.Ticks
		} else {
			joined.Runs = append(joined.Runs, r)
		}
	}
	return joined
}

// written returns the textual form of a valid capture.
func written(c api.Capture) string {
	var b strings.Builder
	fmt.Fprintf(&b, "channels %s\n", strings.Join(c.Names, " "))
	at := 0
	for _, r := range clean(c).Runs {
		fmt.Fprintf(&b, "%d %s\n", at, characters(r.Level, len(c.Names)))
		at += r.Ticks
	}
	fmt.Fprintf(&b, "end %d\n", at)
	return b.String()
}

// random returns a random valid capture of up to n runs.
func random(r *rand.Rand, n int) api.Capture {
	c := api.Capture{Names: channels(1 + r.Intn(api.MaxChannels))}
	r.Shuffle(len(c.Names), func(i, j int) { c.Names[i], c.Names[j] = c.Names[j], c.Names[i] })
	shift, width := r.Intn(41), 1+r.Intn(len(c.Names))
	for range r.Intn(n + 1) {
		c.Runs = append(c.Runs, api.Run{Level: r.Intn(1<<width) << (len(c.Names) - width), Ticks: 1 + r.Intn(end/n)>>shift})
	}
	return c
}

// right returns valid captures: ordinary ones, and those at the limits of every field.
func right() []api.Capture {
	return []api.Capture{
		of("a"), of("a b c"), of("a b", 1, 3, 1, 2, 2, 4), of("a", 1, 8, 0, 4), of("a", 0, 1), of("a", 1, 1), of("end", 0, 5, 1, 5), of("channels end", 0, 5, 1, 5, 3, 90),
		of("a_long_name_of16 a_long_name_of17", 1, 1, 0, 127), of("b a", 2, 1<<31, 1, 1<<32, 0, 1<<33), of("a", 0, end), of("a", 1, end-1, 0, 1), of("a", 0, end/2, 0, end/2), of("a", 0, 1, 1, end-1),
		of(letters[:31]), of(letters[:31], 1<<16-1, end), of(letters[:31], 1, 9, 1<<15, 1, 0x5555, 5, 0xaaaa, 99, 1<<15-1, 1, 1<<16-2, 7), many(1, 100, 1, 0, 1), many(3, 50, 1000, 7, 7, 6, 3), many(16, 16, 1<<36, 1<<15, 0, 1),
	}
}

// The forms of the lines.
var (
	headLine = regexp.MustCompile(`\Achannels( [a-z][a-z0-9_]{0,15})+\z`)
	runLine  = regexp.MustCompile(`\A(0|[1-9][0-9]*) ([01]+)\z`)
	endLine  = regexp.MustCompile(`\Aend (0|[1-9][0-9]*)\z`)
)

// judged is an independent reading of the lines of a text: what they say, or the first one with an error.
func judged(s string) (api.Capture, int, api.Errno) {
	if len(s) > mostLen {
		return api.Capture{}, 0, api.ErrLimit
	}
	var c api.Capture
	var times []int
	ended := false
	for i, text := range strings.SplitAfter(s, "\n") {
		if text == "" && ended {
			return c, 0, api.OK
		}
		e := api.ErrSyntax
		if text, whole := strings.CutSuffix(text, "\n"); whole && !ended {
			switch {
			case i == 0:
				e = judgedHead(text, &c)
			case strings.HasPrefix(text, "end "):
				e, ended = judgedTime(endLine.FindStringSubmatch(text), &c, &times), true
			default:
				e = judgedRun(text, &c, &times)
			}
		}
		if e != api.OK {
			return api.Capture{}, i + 1, e
		}
	}
	return api.Capture{}, -1, -1
}

// judgedHead reads the first line.
func judgedHead(text string, c *api.Capture) api.Errno {
	if !headLine.MatchString(text) {
		return api.ErrSyntax
	}
	c.Names = strings.Fields(text)[1:]
	if len(c.Names) > 16 {
		return api.ErrLimit
	}
	seen := map[string]bool{}
	for _, name := range c.Names {
		seen[name] = true
	}
	if len(seen) < len(c.Names) {
		return api.ErrDuplicate
	}
	return api.OK
}

// judgedTime reads the time of a line that has a form.
func judgedTime(parts []string, c *api.Capture, times *[]int) api.Errno {
	if parts == nil {
		return api.ErrSyntax
	}
	n, _ := new(big.Int).SetString(parts[1], 10)
	if n.Cmp(big.NewInt(end)) > 0 {
		return api.ErrSyntax
	}
	at := int(n.Int64())
	*times = append(*times, at)
	k := len(*times)
	if k == 1 && at > 0 || k > 1 && at <= (*times)[k-2] {
		return api.ErrSyntax
	}
	if k > 1 {
		c.Runs[k-2].Ticks = at - (*times)[k-2]
	}
	return api.OK
}

// judgedRun reads a line of a time and levels.
func judgedRun(text string, c *api.Capture, times *[]int) api.Errno {
	parts := runLine.FindStringSubmatch(text)
	if judgedTime(parts, c, times) != api.OK || len(parts[2]) != len(c.Names) {
		return api.ErrSyntax
	}
	level := 0
	for i, x := range parts[2] {
		level += int(x-'0') << i
	}
	if k := len(c.Runs); k > 0 && c.Runs[k-1].Level == level {
		return api.ErrSyntax
	}
	c.Runs = append(c.Runs, api.Run{Level: level})
	return api.OK
}

// short returns the beginning, the end and the length of a string as text.
func short(s string) string {
	if len(s) <= 200 {
		return fmt.Sprintf("%q", s)
	}
	return fmt.Sprintf("%q ... %q of %d bytes", s[:100], s[len(s)-100:], len(s))
}

// brief returns the beginning of a capture and the number of its runs as text.
func brief(c api.Capture) string {
	return fmt.Sprintf("%q %v of %d", c.Names, c.Runs[:min(len(c.Runs), 10)], len(c.Runs))
}

// equal reports whether names and runs are the same.
func equal(a, b api.Capture) bool {
	return slices.Equal(a.Names, b.Names) && slices.Equal(a.Runs, b.Runs)
}

// writes reports an error unless Text of a capture is exactly this.
func writes(t *testing.T, c api.Capture, want string) {
	t.Helper()
	if s, e := vcd.Text(c); s != want || e != api.OK {
		t.Errorf("%s: %s %d, not %s", brief(c), short(s), e, short(want))
	}
}

// refuses reports an error unless Text of a capture is exactly this error.
func refuses(t *testing.T, c api.Capture, want api.Errno) {
	t.Helper()
	if s, e := vcd.Text(c); s != "" || e != want {
		t.Errorf("%s: %s %d, not %d", brief(c), short(s), e, want)
	}
}

// reads reports an error unless Parse of a string is exactly this.
func reads(t *testing.T, s string, want api.Capture) {
	t.Helper()
	if c, line, e := vcd.Parse(s); !equal(c, want) || line != 0 || e != api.OK {
		t.Errorf("%s: %s %d %d, not %s", short(s), brief(c), line, e, brief(want))
	}
}

// rejects reports an error unless Parse of a string is exactly this error.
func rejects(t *testing.T, s string, line int, e api.Errno) {
	t.Helper()
	if c, i, f := vcd.Parse(s); !equal(c, api.Capture{}) || i != line || f != e {
		t.Errorf("%s: %s %d %d, not %d %d", short(s), brief(c), i, f, line, e)
	}
}

// asJudged reports an error unless Parse of a string is what the independent reading is, and Text of an accepted one
// is the string again. It reports whether the string is accepted.
func asJudged(t *testing.T, s string) bool {
	t.Helper()
	want, line, e := judged(s)
	if e != api.OK {
		rejects(t, s, line, e)
		return false
	}
	reads(t, s, want)
	writes(t, want, s)
	return true
}
