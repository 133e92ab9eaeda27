package remap_test

import (
	"fmt"
	"regexp"
	"slices"
	"testing"

	"signalbench/api"
	"signalbench/remap"
)

// nameForm is the form of names.
var nameForm = regexp.MustCompile(`\A[a-z][a-z0-9_]{0,15}\z`)

// renamed is an independent reading of Rename.
func renamed(c api.Capture, old, name string) (api.Capture, api.Errno) {
	names := slices.Clone(c.Names)
	place := slices.Index(names, old)
	if place < 0 {
		return api.Capture{}, api.ErrNotFound
	}
	if !nameForm.MatchString(name) {
		return api.Capture{}, api.ErrSyntax
	}
	if i := slices.Index(names, name); i >= 0 && i != place {
		return api.Capture{}, api.ErrDuplicate
	}
	names[place] = name
	return api.Capture{Names: names, Runs: c.Runs}, api.OK
}

// renames reports an error unless Rename is what the independent reading is.
func renames(t *testing.T, c api.Capture, old, name string) {
	t.Helper()
	what := fmt.Sprintf("%s %q %q", text(c), old, name)
	got, e := remap.Rename(c, old, name)
	if want, f := renamed(c, old, name); f == api.OK {
		gives(t, what, got, e, want)
	} else {
		fails(t, what, got, e, f)
	}
}

// P12.2
func TestRename(t *testing.T) {
	for _, x := range []struct {
		c         api.Capture
		old, name string
		want      api.Capture
	}{
		{of("a b", 1, 3, 1, 2, 2, 4), "a", "c", of("c b", 1, 3, 1, 2, 2, 4)}, {of("a b", 1, 3, 2, 2, 2, 4), "b", "a_long_name_of16", of("a a_long_name_of16", 1, 3, 2, 2, 2, 4)},
		{of("a"), "a", "z9", of("z9")}, {of("a b c", 7, 1), "b", "b", of("a b c", 7, 1)}, {of("a", 0, end/2, 0, end/2), "a", "b", of("b", 0, end/2, 0, end/2)},
	} {
		c, e := remap.Rename(x.c, x.old, x.name)
		gives(t, text(x.c)+" "+x.old+" "+x.name, c, e, x.want)
	}
}

// P12.2
func TestRenameInValidCaptures(t *testing.T) {
	for _, c := range append(shortOnes(), right()...) {
		renames(t, c, c.Names[0], "z")
		renames(t, c, c.Names[0], c.Names[0])
		renames(t, c, c.Names[0], c.Names[len(c.Names)-1])
		renames(t, c, c.Names[len(c.Names)-1], c.Names[0])
	}
}

// P12.2
func TestRenameOfAllNames(t *testing.T) {
	names := slices.Concat(channels(18), noChannels, []string{"a_long_name_of16", "0a", "a-", "a.b", "aB", "`", "{", "a\xff", "_", "a/", "a:"})
	for _, c := range []api.Capture{of("a", 1, 3, 1, 2), of("b c a x", 9, 3, 9, 5, 6, 7), of("a_long_name_of16 a"), with(16, runs(1, 3, 1<<15, 4))} {
		for _, old := range names {
			for _, name := range names {
				renames(t, c, old, name)
			}
		}
	}
}

// P12.2
func TestRenameInWrongCaptures(t *testing.T) {
	for _, x := range wrong() {
		for _, old := range []string{"a", "b", "zz", ""} {
			for _, name := range []string{"a", "z", "", "A"} {
				c, e := remap.Rename(x.c, old, name)
				fails(t, fmt.Sprintf("%s %q %q", text(x.c), old, name), c, e, x.e)
			}
		}
	}
}
