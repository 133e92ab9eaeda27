package vcd_test

import (
	"fmt"
	"math"
	"math/rand"
	"slices"
	"strings"
	"testing"

	"signalbench/api"
	"signalbench/vcd"
)

// P11.1
func TestText(t *testing.T) {
	for _, x := range []struct {
		c    api.Capture
		want string
	}{
		{of("a b", 1, 3, 1, 2, 2, 4), "channels a b\n0 10\n5 01\nend 9\n"},
		{of("a"), "channels a\nend 0\n"},
		{of("b a c"), "channels b a c\nend 0\n"},
		{of("a", 0, 1), "channels a\n0 0\nend 1\n"},
		{of("a", 1, 8, 0, 4), "channels a\n0 1\n8 0\nend 12\n"},
		{of("a", 0, 2, 0, 3, 0, 4), "channels a\n0 0\nend 9\n"},
		{of("a", 0, 2, 1, 3, 1, 4, 0, 5, 0, 6), "channels a\n0 0\n2 1\n9 0\nend 20\n"},
		{of("a b c", 4, 1, 3, 9, 6, 90, 0, 900), "channels a b c\n0 001\n1 110\n10 011\n100 000\nend 1000\n"},
		{of("end channels a_long_name_of16 z9_", 0, 1, 8, 1), "channels end channels a_long_name_of16 z9_\n0 0000\n1 0001\nend 2\n"},
		{of(letters[:31], 1, 7, 1<<15, 1), "channels a b c d e f g h i j k l m n o p\n0 1000000000000000\n7 0000000000000001\nend 8\n"},
		{of("a", 0, end), "channels a\n0 0\nend 1099511627776\n"},
		{of("a", 0, end-1, 1, 1), "channels a\n0 0\n1099511627775 1\nend 1099511627776\n"},
		{of("a", 0, 1<<32, 1, 1<<31), "channels a\n0 0\n4294967296 1\nend 6442450944\n"},
	} {
		writes(t, x.c, x.want)
		reads(t, x.want, clean(x.c))
	}
}

// P11.1, P11.3
func TestAllShortCaptures(t *testing.T) {
	for count, most := range []int{0, 7, 4, 3} {
		for n := 0; count > 0 && n <= most; n++ {
			for _, levels := range sequences(n, 1<<count-1) {
				for _, k := range []int{1, 7, end / 8} {
					want := drawn(channels(count), levels, k)
					for ends := range 1 << n {
						writes(t, api.Capture{Names: channels(count), Runs: divided(levels, k, ends)}, want)
					}
					reads(t, want, api.Capture{Names: channels(count), Runs: divided(levels, k, 0)})
				}
			}
		}
	}
}

// P11.1, P11.3
func TestTextAndParse(t *testing.T) {
	all := right()
	r := rand.New(rand.NewSource(11))
	for range 2000 {
		all = append(all, random(r, 40))
	}
	for _, c := range all {
		want := written(c)
		writes(t, c, want)
		reads(t, want, clean(c))
	}
}

// P11.1
func TestTextOfEachChannel(t *testing.T) {
	for count := 1; count <= 16; count++ {
		head := "channels " + strings.Join(channels(count), " ") + "\n"
		for i := range count {
			one := strings.Repeat("0", i) + "1" + strings.Repeat("0", count-1-i)
			writes(t, many(count, 1, 3, 1<<i), head+"0 "+one+"\nend 3\n")
			others := strings.Repeat("1", i) + "0" + strings.Repeat("1", count-1-i)
			writes(t, many(count, 2, 3, 1<<count-1-1<<i, 1<<i), head+"0 "+others+"\n3 "+one+"\nend 6\n")
		}
	}
}

// P11.1
func TestTextOfWrongCaptures(t *testing.T) {
	for _, x := range []struct {
		c api.Capture
		e api.Errno
	}{
		{api.Capture{}, api.ErrArg}, {api.Capture{Runs: of("a", 5, 0).Runs}, api.ErrArg}, {of(letters), api.ErrLimit}, {of(letters, 1, 1), api.ErrLimit},
		{many(1, api.MaxRuns+1, 1, 0, 1), api.ErrLimit}, {many(1, api.MaxRuns+1, 1, 0), api.ErrLimit}, {many(0, api.MaxRuns+1, 1, 0), api.ErrLimit},
		{of("A"), api.ErrSyntax}, {of("a 1"), api.ErrSyntax}, {of("a_long_name_of_17"), api.ErrSyntax}, {of("a a B", 9, 9), api.ErrSyntax}, {api.Capture{Names: []string{""}}, api.ErrSyntax},
		{api.Capture{Names: []string{"a b"}}, api.ErrSyntax}, {api.Capture{Names: []string{"a\n"}}, api.ErrSyntax}, {api.Capture{Names: []string{"a", "b\nend 0\n"}}, api.ErrSyntax},
		{of("a a"), api.ErrDuplicate}, {of("a b c a", 99, 0), api.ErrDuplicate},
		{of("a", 2, 1), api.ErrRange}, {of("a", -1, 1), api.ErrRange}, {of("a b", 4, 1), api.ErrRange}, {of(letters[:31], 1<<16, 1), api.ErrRange},
		{of("a", 1, 0), api.ErrRange}, {of("a", 1, -1), api.ErrRange}, {of("a", 1, 5, 1, 0), api.ErrRange}, {of("a", 1, 5, 0, -2, 1, 5), api.ErrRange},
		{of("a", 1, end+1), api.ErrRange}, {of("a", 1, end, 0, 1), api.ErrRange}, {of("a", 1, end, 1, 1), api.ErrRange}, {of("a", 1, math.MaxInt, 0, math.MaxInt, 1, 3), api.ErrRange},
	} {
		refuses(t, x.c, x.e)
	}
}

// sized returns a capture whose textual form has this number of bytes, which is great: runs of 1 tick, and a name
// that takes the rest.
func sized(n int) api.Capture {
	c := of("a")
	size := len("channels a\n")
	for {
		k := len(c.Runs)
		if rest := n - size - len(fmt.Sprintf("end %d\n", k)); rest < api.MaxName {
			c.Names[0] = strings.Repeat("x", 1+rest)
			return c
		}
		size += len(fmt.Sprintf("%d 0\n", k))
		c.Runs = append(c.Runs, api.Run{Level: k % 2, Ticks: 1})
	}
}

// P11.1, P11.2, P11.3
func TestLongestTexts(t *testing.T) {
	for _, n := range []int{mostLen - 20, mostLen - 2, mostLen - 1, mostLen} {
		c := sized(n)
		want := written(c)
		if len(want) != n {
			t.Fatalf("%d bytes, not %d", len(want), n)
		}
		writes(t, c, want)
		reads(t, want, c)
	}
	for _, n := range []int{mostLen + 1, mostLen + 2, mostLen + 20} {
		c := sized(n)
		if len(written(c)) != n {
			t.Fatalf("%d bytes, not %d", len(written(c)), n)
		}
		refuses(t, c, api.ErrLimit)
		rejects(t, written(c), 0, api.ErrLimit)
	}
}

// P11.1
func TestTextOfManyRuns(t *testing.T) {
	const n, k = api.MaxRuns, end / api.MaxRuns
	writes(t, many(1, n, k, 1), "channels a\n0 1\nend 1099511627776\n")
	writes(t, many(2, n-1, 1, 3), "channels a b\n0 11\nend 262143\n")
	for _, c := range []api.Capture{many(1, n, 1, 0, 1), many(16, n, k, 1<<16-1, 0), many(2, n, k, 3, 0, 1), many(1, n/2, 1, 0, 1)} {
		refuses(t, c, api.ErrLimit)
	}
	// What is written for many runs need not be long.
	c := many(3, n, k, 5)
	for i := range 50000 {
		c.Runs[2*i].Level, c.Runs[2*i+1].Level = i%8, i%8
	}
	writes(t, c, written(c))
	reads(t, written(c), clean(c))
	// The error of a capture comes before that of its length.
	c = many(1, n, 1, 0, 1)
	c.Runs[n-1].Ticks = 0
	refuses(t, c, api.ErrRange)
	c.Names = []string{"a", "a"}
	refuses(t, c, api.ErrDuplicate)
}

// P11.1, P11.2: an argument stays as it is, and a result is new memory.
func TestMemory(t *testing.T) {
	names := []string{"a", "b", "c", "d"}
	c := api.Capture{Names: names[:2], Runs: of("a", 1, 3, 1, 2, 2, 4, 7, 7).Runs[:3]}
	for range 2 {
		writes(t, c, "channels a b\n0 10\n5 01\nend 9\n")
	}
	if !slices.Equal(names, channels(4)) || !slices.Equal(c.Runs[:4], of("a", 1, 3, 1, 2, 2, 4, 7, 7).Runs) {
		t.Error(names, c.Runs[:4])
	}
	const s = "channels a b\n0 10\n5 01\nend 9\n"
	first, _, _ := vcd.Parse(s)
	first.Names[0], first.Runs[0] = "z", api.Run{Level: 9, Ticks: 9}
	reads(t, s, of("a b", 1, 5, 2, 4))
}

// R2: lists that are nil and lists that are empty are the same.
func TestTextOfNilAndEmptyLists(t *testing.T) {
	writes(t, api.Capture{Names: []string{"a"}, Runs: []api.Run{}}, "channels a\nend 0\n")
	refuses(t, api.Capture{Names: []string{}, Runs: []api.Run{}}, api.ErrArg)
}
