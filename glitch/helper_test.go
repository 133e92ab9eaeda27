package glitch_test

import (
	"fmt"
	"math"
	"math/rand"
	"regexp"
	"slices"
	"strings"
	"testing"

	"signalbench/api"
)

const end = api.MaxTime

// stretch is the factor by which the waves of 8 ticks become those of the greatest length.
const stretch = end / 8

// letters has a name more than the greatest number of channels.
const letters = "a b c d e f g h i j k l m n o p q"

// runs returns runs of these levels and ticks, which alternate.
func runs(n ...int) []api.Run {
	var l []api.Run
	for i := 0; i < len(n); i += 2 {
		l = append(l, api.Run{Level: n[i], Ticks: n[i+1]})
	}
	return l
}

// turns returns runs of these ticks whose levels alternate, beginning with the given one.
func turns(first int, ticks ...int) []api.Run {
	var l []api.Run
	for i, k := range ticks {
		l = append(l, api.Run{Level: (first + i) % 2, Ticks: k})
	}
	return l
}

// repeated returns n runs of k ticks each whose levels are these, again and again.
func repeated(n, k int, levels ...int) []api.Run {
	var l []api.Run
	for i := range n {
		l = append(l, api.Run{Level: levels[i%len(levels)], Ticks: k})
	}
	return l
}

// stretched returns the runs with their ticks multiplied by k.
func stretched(l []api.Run, k int) []api.Run {
	var longer []api.Run
	for _, r := range l {
		longer = append(longer, api.Run{Level: r.Level, Ticks: k * r.Ticks})
	}
	return longer
}

// exactly returns all lists of runs of n ticks with the levels from 0 to the mask.
func exactly(n, mask int) [][]api.Run {
	if n == 0 {
		return [][]api.Run{nil}
	}
	var all [][]api.Run
	for k := 1; k <= n; k++ {
		for _, rest := range exactly(n-k, mask) {
			for level := range mask + 1 {
				all = append(all, append(runs(level, k), rest...))
			}
		}
	}
	return all
}

// short returns all valid waves of up to n ticks, in all divisions into runs.
func short(n int) [][]api.Run {
	var all [][]api.Run
	for k := range n + 1 {
		all = append(all, exactly(k, 1)...)
	}
	return all
}

// random returns a random valid wave of up to n runs, in a random division into runs.
func random(r *rand.Rand, n int) []api.Run {
	var l []api.Run
	level, most := r.Intn(2), 1+r.Intn(9)
	for range r.Intn(n + 1) {
		if r.Intn(4) > 0 {
			level = 1 - level
		}
		l = append(l, api.Run{Level: level, Ticks: 1 + r.Intn(most)})
	}
	return l
}

// drawn returns the levels of a short valid wave as text, a character for each tick.
func drawn(l []api.Run) string {
	var s strings.Builder
	for _, r := range l {
		s.WriteString(strings.Repeat(string(rune('0'+r.Level)), r.Ticks))
	}
	return s.String()
}

var equalLevels = regexp.MustCompile("0+|1+")

// read returns the clean wave with the levels of a text.
func read(s string) []api.Run {
	var l []api.Run
	for _, part := range equalLevels.FindAllString(s, -1) {
		l = append(l, runs(int(part[0]-'0'), len(part))...)
	}
	return l
}

// cleaned returns the clean wave of a valid one.
func cleaned(l []api.Run) []api.Run {
	var joined []api.Run
	for i, r := range l {
		if i > 0 && r.Level == l[i-1].Level {
			joined[len(joined)-1].Ticks += r.Ticks
		} else {
			joined = append(joined, r)
		}
	}
	return joined
}

// long returns the number of ticks of a valid wave.
func long(l []api.Run) int {
	n := 0
	for _, r := range l {
		n += r.Ticks
	}
	return n
}

var exchanged = strings.NewReplacer("0", "1", "1", "0")

// inverted returns the text with the characters from the index from to before the index to exchanged.
func inverted(s string, from, to int) string {
	return s[:from] + exchanged.Replace(s[from:to]) + s[to:]
}

// shortPulses returns the places in a text of the pulses that are too short.
func shortPulses(s string, least int) [][]int {
	var l [][]int
	for _, place := range equalLevels.FindAllStringIndex(s, -1) {
		if place[0] > 0 && place[1] < len(s) && place[1]-place[0] < least {
			l = append(l, place)
		}
	}
	return l
}

// filtered returns the text after the steps of the definition, one after the other.
func filtered(s string, least int) string {
	for l := shortPulses(s, least); len(l) > 0; l = shortPulses(s, least) {
		s = inverted(s, l[0][0], l[0][1])
	}
	return s
}

// brief returns the beginning and the length of a list as text.
func brief[T any](l []T) string { return fmt.Sprint(l[:min(len(l), 10)], " of ", len(l)) }

// equal reports an error unless the waves have the same runs.
func equal(t *testing.T, what string, l, want []api.Run) {
	t.Helper()
	if !slices.Equal(l, want) {
		t.Errorf("%s: %s, not %s", what, brief(l), brief(want))
	}
}

// gives reports an error unless a call returned exactly this wave.
func gives(t *testing.T, what string, l []api.Run, e api.Errno, want []api.Run) {
	t.Helper()
	if e != api.OK {
		t.Errorf("%s: error %d", what, e)
	}
	equal(t, what, l, want)
}

// fails reports an error unless a call returned no runs and this error.
func fails(t *testing.T, what string, l []api.Run, e, want api.Errno) {
	t.Helper()
	if len(l) != 0 || e != want {
		t.Errorf("%s: %s %d, not error %d", what, brief(l), e, want)
	}
}

// leasts returns numbers of ticks that no wave has, or that are greater than all of a wave.
func leasts() []int {
	return []int{math.MinInt, math.MinInt + 1, -end, -1, 0, 1, end, end + 1, math.MaxInt - 1, math.MaxInt}
}

// right returns valid waves: ordinary ones, and those at the limits of every field.
func right() [][]api.Run {
	const n, k = api.MaxRuns, end / api.MaxRuns
	return [][]api.Run{
		nil, {}, runs(0, 1), runs(1, 1), runs(1, 8, 1, 2, 0, 4), turns(0, 5, 2, 3, 1, 4), turns(0, 5, 2, 2, 5), turns(1, 1<<31, 1<<32, 1<<33, 1<<31, 7),
		runs(0, end), runs(1, end), turns(0, end-1, 1), turns(1, 1, end-1), turns(0, 1, end-2, 1), turns(1, end/2-1, 2, end/2-1), runs(1, end/2, 1, end/2), runs(0, 1, 1, end/2, 1, end/2-2, 0, 1),
		repeated(n, 1, 0, 1), repeated(n-1, 1, 0, 1), repeated(n, k, 1, 0), repeated(n, 1, 1), repeated(n, k, 0, 0, 1, 1, 1, 0),
	}
}

// wrong returns waves that are not valid.
func wrong() [][]api.Run {
	return [][]api.Run{
		runs(2, 5), runs(-1, 5), runs(0, 5, 2, 1, 0, 5), runs(0, 5, 1, 1, 0, 5, 3, 5), runs(0, 3, 1, 1, 0, 3, -1, 1, 0, 3), runs(48, 5, 49, 1, 48, 5), runs(math.MinInt, 1), runs(math.MaxInt, 1),
		turns(0, 0), turns(0, 5, 0, 5), turns(0, 5, -1, 5), turns(1, 5, 1, 5, 0), turns(1, 0, 1, 5), turns(0, 9, 1, 9, math.MinInt), {{}}, {{}, {}, {}},
		turns(0, end+1), turns(0, end, 1), turns(0, end-1, 1, 1), turns(1, end/2, 1, end/2), turns(0, math.MaxInt, math.MaxInt, 3), turns(0, 1, math.MaxInt, math.MaxInt, 2), turns(0, end+1, -1, 1),
		repeated(api.MaxRuns+1, 1, 0, 1), repeated(api.MaxRuns+1, 1, 0), repeated(2*api.MaxRuns, 1, 1, 0), append(repeated(api.MaxRuns-1, 1, 0, 1), runs(2, 1)...), append(repeated(api.MaxRuns-1, 1, 0, 1), runs(1, 0)...),
	}
}
