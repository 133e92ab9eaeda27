package vcd_test

import (
	"fmt"
	"math/rand"
	"strings"
	"testing"

	"signalbench/api"
	"signalbench/vcd"
)

// P11.2
func TestParseOfWrongLines(t *testing.T) {
	for _, x := range []struct {
		s    string
		line int
		e    api.Errno
	}{
		// Lines without an end.
		{"", 1, api.ErrSyntax}, {"channels a", 1, api.ErrSyntax}, {"channels a\n", 2, api.ErrSyntax}, {"channels a\nend 0", 2, api.ErrSyntax}, {"channels a\n0 1", 2, api.ErrSyntax},
		{"channels a\n0 1\n", 3, api.ErrSyntax}, {"channels a\n0 1\nend 4", 3, api.ErrSyntax}, {"channels a a", 1, api.ErrSyntax}, {"channels " + letters, 1, api.ErrSyntax},
		// The first line.
		{"\n", 1, api.ErrSyntax}, {"channels\n", 1, api.ErrSyntax}, {"channels \n", 1, api.ErrSyntax}, {"channelsa\n", 1, api.ErrSyntax}, {"channel a\nend 0\n", 1, api.ErrSyntax}, {" channels a\nend 0\n", 1, api.ErrSyntax},
		{"Channels a\nend 0\n", 1, api.ErrSyntax}, {"channels  a\nend 0\n", 1, api.ErrSyntax}, {"channels a  b\nend 0\n", 1, api.ErrSyntax}, {"channels a \nend 0\n", 1, api.ErrSyntax}, {"channels\ta\nend 0\n", 1, api.ErrSyntax},
		{"channels a\tb\nend 0\n", 1, api.ErrSyntax}, {"channels a\r\nend 0\r\n", 1, api.ErrSyntax}, {"channels A\nend 0\n", 1, api.ErrSyntax}, {"channels 1\nend 0\n", 1, api.ErrSyntax}, {"channels a,b\nend 0\n", 1, api.ErrSyntax},
		{"end 0\n", 1, api.ErrSyntax}, {"0 1\nend 4\n", 1, api.ErrSyntax}, {"\nchannels a\nend 0\n", 1, api.ErrSyntax}, {"channels a a\n", 1, api.ErrDuplicate}, {"channels a b c a\nend 0\n", 1, api.ErrDuplicate},
		{"channels " + letters + "\nend 0\n", 1, api.ErrLimit},
		// The last line.
		{"channels a\nend\n", 2, api.ErrSyntax}, {"channels a\nend \n", 2, api.ErrSyntax}, {"channels a\nend 00\n", 2, api.ErrSyntax}, {"channels a\nend  0\n", 2, api.ErrSyntax}, {"channels a\nend 0 \n", 2, api.ErrSyntax},
		{"channels a\nend 1\n", 2, api.ErrSyntax}, {"channels a\nend 0x0\n", 2, api.ErrSyntax}, {"channels a\nend -0\n", 2, api.ErrSyntax}, {"channels a\nEnd 0\n", 2, api.ErrSyntax}, {"channels a\n end 0\n", 2, api.ErrSyntax},
		{"channels a\nend 0\r\n", 2, api.ErrSyntax}, {"channels a\nend\t0\n", 2, api.ErrSyntax}, {"channels a\n0 1\nend 0\n", 3, api.ErrSyntax}, {"channels a\n0 1\n4 0\nend 4\n", 4, api.ErrSyntax},
		{"channels a\n0 1\n4 0\nend 3\n", 4, api.ErrSyntax}, {"channels a\n0 1\nend 1099511627777\n", 3, api.ErrSyntax}, {"channels a\n0 1\nend 0x4\n", 3, api.ErrSyntax}, {"channels a\n0 1\nend 4 1\n", 3, api.ErrSyntax},
		// Runs.
		{"channels a\n\n", 2, api.ErrSyntax}, {"channels a\n1 1\nend 4\n", 2, api.ErrSyntax}, {"channels a\n0 2\nend 4\n", 2, api.ErrSyntax}, {"channels a\n0 \nend 4\n", 2, api.ErrSyntax}, {"channels a\n0\nend 4\n", 2, api.ErrSyntax},
		{"channels a\n0 01\nend 4\n", 2, api.ErrSyntax}, {"channels a b\n0 1\nend 4\n", 2, api.ErrSyntax}, {"channels a b\n0 011\nend 4\n", 2, api.ErrSyntax}, {"channels a b\n0 1 1\nend 4\n", 2, api.ErrSyntax},
		{"channels a\n00 1\nend 4\n", 2, api.ErrSyntax}, {"channels a\n0  1\nend 4\n", 2, api.ErrSyntax}, {"channels a\n0 1 \nend 4\n", 2, api.ErrSyntax}, {"channels a\n 0 1\nend 4\n", 2, api.ErrSyntax}, {"channels a\n-0 1\nend 4\n", 2, api.ErrSyntax},
		{"channels a\n0 1\n1 1\nend 4\n", 3, api.ErrSyntax}, {"channels a\n0 1\n0 0\nend 4\n", 3, api.ErrSyntax}, {"channels a\n0 1\n4 0\n3 1\nend 9\n", 4, api.ErrSyntax}, {"channels a\n0 1\n4 0\n4 1\nend 9\n", 4, api.ErrSyntax},
		{"channels a\n0 1\n4 0\n5 0\nend 9\n", 4, api.ErrSyntax}, {"channels a\n0 1\nx 0\nend 9\n", 3, api.ErrSyntax}, {"channels a\n0 1\n04 0\nend 9\n", 3, api.ErrSyntax}, {"channels a\n0 1\n0x4 0\nend 9\n", 3, api.ErrSyntax},
		{"channels a\n0 1\n\n4 0\nend 9\n", 3, api.ErrSyntax}, {"channels a\n0 1\nend4\n", 3, api.ErrSyntax}, {"channels a\n0 1\nends 4\n", 3, api.ErrSyntax}, {"channels a\n0 1\n4 0 # low\nend 9\n", 3, api.ErrSyntax},
		{"channels a\n0 1\nchannels a\nend 9\n", 3, api.ErrSyntax},
		// A time that leaves none for the last line.
		{"channels a\n0 1\n1099511627776 0\nend 1099511627776\n", 4, api.ErrSyntax}, {"channels a\n0 1\n1099511627777 0\nend 1099511627778\n", 3, api.ErrSyntax},
		// Lines after the last one.
		{"channels a\nend 0\n\n", 3, api.ErrSyntax}, {"channels a\nend 0\n ", 3, api.ErrSyntax}, {"channels a\nend 0\nend 0\n", 3, api.ErrSyntax}, {"channels a\nend 0\nend 1", 3, api.ErrSyntax}, {"channels a\nend 0\nchannels a\nend 0\n", 3, api.ErrSyntax},
		{"channels a\n0 1\nend 4\n5 0\n", 4, api.ErrSyntax}, {"channels a\n0 1\nend 4\n5 0\nend 9\n", 4, api.ErrSyntax}, {"channels a\n0 1\nend 4\n\n\n", 4, api.ErrSyntax},
		// The first of several wrong lines.
		{"channels a a\n5 5\n\n", 1, api.ErrDuplicate}, {"channels a\n0 1\n0 2\nend x\nend 1\n", 3, api.ErrSyntax}, {"channels a\nend 1\nend 0\n", 2, api.ErrSyntax},
	} {
		rejects(t, x.s, x.line, x.e)
		if _, line, e := judged(x.s); line != x.line || e != x.e {
			t.Errorf("the reading of the tests is wrong: %q", x.s)
		}
	}
}

// P11.2
func TestParse(t *testing.T) {
	for _, x := range []struct {
		s    string
		want api.Capture
	}{
		{"channels a b\n0 10\n5 01\nend 9\n", of("a b", 1, 5, 2, 4)}, {"channels a\nend 0\n", of("a")}, {"channels end\n0 0\nend 1\n", of("end", 0, 1)}, {"channels a\n0 1\nend 1099511627776\n", of("a", 1, end)},
		{"channels a\n0 1\n1099511627775 0\nend 1099511627776\n", of("a", 1, end-1, 0, 1)}, {"channels b_ a9 channels\n0 001\n1 100\n10 000\nend 11\n", of("b_ a9 channels", 4, 1, 1, 9, 0, 1)},
		{"channels " + letters[:31] + "\n0 1000000000000000\n3 1000000000000001\nend 7\n", of(letters[:31], 1, 3, 1<<15+1, 4)},
	} {
		reads(t, x.s, x.want)
		writes(t, x.want, x.s)
	}
}

// P11.2, P11.3: all lists of up to three of these lines and all of up to five that begin rightly, with and without the
// end of the last one.
func TestParseOfListsOfLines(t *testing.T) {
	accepted := 0
	for _, heads := range [][]string{{"channels a", "0 1", "0 0", "1 0", "2 1", "9 0", "end 0", "end 2", "end 9", ""}, {"channels a b", "0 01", "0 11", "2 01", "2 10", "3 1", "end 0", "end 3", "channels a a"}} {
		for n := range 6 {
			for _, choice := range sequences(n, len(heads)-1) {
				// Most lists that begin with another line say no more than the shorter ones.
				if n > 3 && choice[0] > 0 {
					continue
				}
				var l []string
				for _, i := range choice {
					l = append(l, heads[i])
				}
				s := strings.Join(l, "\n")
				asJudged(t, s)
				if asJudged(t, s+"\n") {
					accepted++
				}
			}
		}
	}
	if accepted != 15 {
		t.Errorf("%d lists are accepted, not 15", accepted)
	}
}

// P11.2, P11.3: all short strings of some characters as lines after the first one.
func TestParseOfAllShortTails(t *testing.T) {
	for _, x := range []struct {
		head, characters string
		n                int
	}{{"", "channels \n", 4}, {"channels ", "aA1_ \n", 5}, {"channels a\n", "01 \n", 7}, {"channels a b\n0 01\n", "012 \n", 6}, {"channels a\n0 1\n10 0\nend ", "0129x-\n ", 5}, {"channels a\n0 1\nend 4\n", "0 \n1end", 4}, {"channels a\n", "end 0\n", 6}} {
		for n := range x.n + 1 {
			for _, choice := range sequences(n, len(x.characters)-1) {
				tail := ""
				for _, i := range choice {
					tail += x.characters[i : i+1]
				}
				asJudged(t, x.head+tail)
				if strings.HasPrefix(x.head, "channels a") {
					asJudged(t, x.head+tail+"\nend 20\n")
				}
			}
		}
	}
}

// P11.2, P11.3: every byte of a text removed, replaced by and preceded by every other one, and every pair exchanged.
func TestParseOfChangedTexts(t *testing.T) {
	for _, s := range []string{"channels a\nend 0\n", "channels a b\n0 10\n5 01\nend 9\n", "channels c_1 a_long_name_of16 b\n0 000\n9 111\n10 011\n1099511627775 100\nend 1099511627776\n"} {
		for i := range len(s) + 1 {
			for b := range 256 {
				asJudged(t, s[:i]+string([]byte{byte(b)})+s[i:])
				if i < len(s) {
					asJudged(t, s[:i]+string([]byte{byte(b)})+s[i+1:])
				}
			}
			asJudged(t, s[:i])
			asJudged(t, s[i:])
			for k := i + 1; k < len(s); k++ {
				asJudged(t, s[:i]+s[k:])
				asJudged(t, s[:i]+s[k:k+1]+s[i+1:k]+s[i:i+1]+s[k+1:])
			}
		}
	}
}

// P11.2, P11.3: lines of random texts are changed, exchanged, removed and repeated.
func TestParseOfChangedLines(t *testing.T) {
	r := rand.New(rand.NewSource(12))
	for range 20000 {
		lines := strings.SplitAfter(written(random(r, 12)), "\n")
		for range r.Intn(3) {
			i, k := r.Intn(len(lines)), r.Intn(len(lines))
			switch r.Intn(4) {
			case 0:
				lines[i], lines[k] = lines[k], lines[i]
			case 1:
				lines[i] = ""
			case 2:
				lines[i] += lines[k]
			case 3:
				lines[i] = strings.Replace(lines[i], "1", "0", 1)
			}
		}
		asJudged(t, strings.Join(lines, ""))
	}
}

// P11.2
func TestParseOfTimes(t *testing.T) {
	for _, n := range []int{1, 2, 9, 10, 11, 99, 100, 1<<31 - 1, 1 << 31, 1<<32 - 1, 1 << 32, 1<<32 + 1, end - 2, end - 1} {
		reads(t, fmt.Sprintf("channels a\n0 1\n%d 0\nend %d\n", n, n+1), of("a", 1, n, 0, 1))
		reads(t, fmt.Sprintf("channels a\n0 1\n%d 0\nend %d\n", n, end), of("a", 1, n, 0, end-n))
		reads(t, fmt.Sprintf("channels a\n0 1\nend %d\n", n), of("a", 1, n))
	}
	for _, word := range []string{"", " ", "+5", "-5", "-1", "-0", "+0", "05", "005", "0x5", "0X5", "0b101", "0o5", "5.0", "5e0", "5_0", "1_000", "five", "٥", "５", "5\x00", "\x005", "5 ", " 5", "5\r", "\t5",
		"1099511627777", "1099511627778", "2199023255552", "9007199254740992", "9007199254740993", "9223372036854775807", "9223372036854775808", "18446744073709551615", "18446744073709551616", "18446744073709551621", "340282366920938463463374607431768211461",
		strings.Repeat("9", 1000), strings.Repeat("0", 1000) + "5", "1" + strings.Repeat("0", 100000)} {
		rejects(t, "channels a\n0 1\n"+word+" 0\nend 1099511627776\n", 3, api.ErrSyntax)
		rejects(t, "channels a\n0 1\nend "+word+"\n", 3, api.ErrSyntax)
		rejects(t, "channels a\n"+word+" 0\nend 1099511627776\n", 2, api.ErrSyntax)
		rejects(t, "channels a\nend "+word+"\n", 2, api.ErrSyntax)
	}
}

// P11.2
func TestParseOfNames(t *testing.T) {
	for b := range 256 {
		for _, name := range []string{string([]byte{byte(b)}), "a" + string([]byte{byte(b)}), string([]byte{byte(b), 'a'}), strings.Repeat("x", 15) + string([]byte{byte(b)})} {
			asJudged(t, "channels "+name+"\nend 0\n")
			asJudged(t, "channels first "+name+" last\nend 0\n")
		}
	}
	for n := range 20 {
		asJudged(t, "channels "+strings.Repeat("x", n)+"\nend 0\n")
	}
	for n := range 16 {
		asJudged(t, "channels "+strings.Join(channels(n+1), " ")+"\nend 0\n")
		asJudged(t, "channels "+strings.Join(channels(n+1), " ")+"\n0 "+strings.Repeat("1", n+1)+"\nend 1\n")
		for i := range n {
			names := channels(n + 1)
			names[n] = names[i]
			rejects(t, "channels "+strings.Join(names, " ")+"\nend 0\n", 1, api.ErrDuplicate)
		}
	}
	for _, n := range []int{17, 18, 32, 100, 256, 65536, 500000} {
		rejects(t, "channels"+strings.Repeat(" a", n)+"\nend 0\n", 1, api.ErrLimit)
	}
}

// P11.2: the first line with several errors.
func TestOrderOfErrorsOfNames(t *testing.T) {
	for bits := range 16 {
		names, stop := channels(3), "\n"
		want := api.OK
		if bits&1 > 0 {
			names, want = append(names, "b"), api.ErrDuplicate
		}
		if bits&2 > 0 {
			names, want = append(channels(17), names...), api.ErrLimit
		}
		if bits&4 > 0 {
			names, want = append(names, "Wrong"), api.ErrSyntax
		}
		if bits&8 > 0 {
			stop, want = "", api.ErrSyntax
		}
		s := "channels " + strings.Join(names, " ") + stop
		if want == api.OK {
			reads(t, s+"end 0\n", api.Capture{Names: names})
			continue
		}
		rejects(t, s, 1, want)
		if stop != "" {
			rejects(t, s+"end 0\n", 1, want)
			rejects(t, s+"wrong", 1, want)
		}
	}
}

// P11.2
func TestParseOfLongStrings(t *testing.T) {
	full := written(sized(mostLen))
	for _, s := range []string{strings.Repeat("\n", mostLen+1), strings.Repeat("x", mostLen+1), full + "\n", full + "x", full + full, "channels a\nend 0\n" + full, strings.Repeat(" ", 1<<24), "channels A" + full} {
		rejects(t, s, 0, api.ErrLimit)
	}
	lines := strings.Count(full, "\n")
	cut := strings.LastIndex(full[:mostLen-1], "\n") + 1
	rejects(t, full[:mostLen-1], lines, api.ErrSyntax)
	rejects(t, full[:cut], lines, api.ErrSyntax)
	rejects(t, full[:cut]+strings.Repeat("x", mostLen-cut), lines, api.ErrSyntax)
	rejects(t, full[:cut]+"end"+strings.Repeat("\n", mostLen-cut-3), lines, api.ErrSyntax)
	rejects(t, strings.Repeat("\n", mostLen), 1, api.ErrSyntax)
	rejects(t, strings.Repeat("x", mostLen), 1, api.ErrSyntax)
	rejects(t, "channels"+strings.Repeat(" ", mostLen-9)+"\n", 1, api.ErrSyntax)
	rejects(t, "channels a\nend 0"+strings.Repeat("\n", mostLen-16), 3, api.ErrSyntax)
	rejects(t, "channels a\n0 "+strings.Repeat("1", mostLen-14)+"\n", 2, api.ErrSyntax)
	rejects(t, "channels a\n"+strings.Repeat("0", mostLen-14)+" 1\n", 2, api.ErrSyntax)
}

// P11.2: a result does not depend on calls before it, with or without an error.
func TestParseAgain(t *testing.T) {
	good, want := "channels a b\n0 10\n5 01\nend 9\n", of("a b", 1, 5, 2, 4)
	for _, s := range []string{"", "channels a a\n", "channels a\n0 1\n0 0\n", strings.Repeat("x", mostLen+1)} {
		_, line, e := vcd.Parse(s)
		reads(t, good, want)
		rejects(t, s, line, e)
	}
}

// P11.3: captures with other names or levels have another text.
func TestTextTellsCapturesApart(t *testing.T) {
	seen := map[string]api.Capture{}
	for _, c := range []api.Capture{of("a b"), of("b a"), of("a"), of("a b", 1, 5), of("b a", 1, 5), of("a b", 2, 5), of("a b", 1, 6), of("a b", 1, 5, 2, 1), of("a b", 1, 4, 2, 2), of("ab", 1, 5), of("a b c", 1, 5)} {
		s, e := vcd.Text(c)
		if before, ok := seen[s]; ok || e != api.OK {
			t.Errorf("%s and %s: %s %d", brief(before), brief(c), short(s), e)
		}
		seen[s] = c
		reads(t, s, c)
	}
}
