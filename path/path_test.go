package path_test

import (
	"slices"
	"strings"
	"testing"

	"sledge/api"
	"sledge/path"
)

var paths = []struct {
	p     string
	parts []string
}{
	{"a", []string{"a"}}, {"a/b.txt", []string{"a", "b.txt"}}, {"...", []string{"..."}}, {"a/.b/..c/d..", []string{"a", ".b", "..c", "d.."}},
	{" ", []string{" "}}, {"\xff/\x01", []string{"\xff", "\x01"}}, {"a\\b", []string{"a\\b"}}, {"x/y/z/w", []string{"x", "y", "z", "w"}},
	{strings.Repeat("x", 4096), []string{strings.Repeat("x", 4096)}}, {strings.Repeat("x/", 2047) + "xy", append(slices.Repeat([]string{"x"}, 2047), "xy")},
}

var wrong = []string{"", "/", "/a", "a/", "a//b", "a/../b", "..", ".", "./a", "a/.", "a/..", "../f", "a/./b", "//", "a\x00b", "\x00", "a/\x00/b",
	strings.Repeat("x", 4097), strings.Repeat("x/", 2048) + "x", strings.Repeat("x/", 2048)}

// 11.1
func TestCheckAndParts(t *testing.T) {
	for _, x := range paths {
		if e := path.Check(x.p); e != api.OK {
			t.Errorf("Check(%.30q) = %d", x.p, e)
		}
		if parts, e := path.Parts(x.p); e != api.OK || !slices.Equal(parts, x.parts) {
			t.Errorf("Parts(%.30q) = %.30q %d", x.p, parts, e)
		}
	}
	for _, p := range wrong {
		if e := path.Check(p); e != api.ErrPath {
			t.Errorf("Check(%.30q) = %d", p, e)
		}
		if parts, e := path.Parts(p); e != api.ErrPath || len(parts) > 0 {
			t.Errorf("Parts(%.30q) = %.30q %d", p, parts, e)
		}
	}
}

// 11.1, 11.3
func TestJoin(t *testing.T) {
	for _, x := range paths {
		if p, e := path.Join(x.parts...); p != x.p || e != api.OK {
			t.Errorf("Join(%.30q) = %.30q %d", x.parts, p, e)
		}
	}
	for _, l := range [][]string{nil, {""}, {"a", ""}, {"", "a"}, {"a/b", "c"}, {"a", "b/"}, {"/"}, {"."}, {"a", ".."}, {"a", "\x00"}, {strings.Repeat("x", 4095), "y"}, slices.Repeat([]string{"x"}, 2049)} {
		if p, e := path.Join(l...); p != "" || e != api.ErrPath {
			t.Errorf("Join(%.30q) = %.30q %d", l, p, e)
		}
	}
	if p, e := path.Join(strings.Repeat("x", 4094), "y"); len(p) != 4096 || e != api.OK {
		t.Errorf("%d bytes %d", len(p), e)
	}
}

// 11.2
func TestCompare(t *testing.T) {
	l := []string{"", "\x00", "a", "a\x00", "a-", "a/b", "aa", "b", "ab\xff"[2:], "\xff\x00"}
	for i, a := range l {
		for j, b := range l {
			want := min(max(i-j, -1), 1)
			if got := path.Compare(a, b); got != want {
				t.Errorf("Compare(%q, %q) = %d", a, b, got)
			}
		}
	}
}

// 11.2
func TestUnder(t *testing.T) {
	for _, x := range []struct {
		p, folder string
		want      bool
	}{
		{"a/b", "a", true}, {"a/b/c", "a", true}, {"a/b/c", "a/b", true}, {"a/", "a", true}, {"/a", "", true}, {"//", "/", true},
		{"ab", "a", false}, {"a", "a", false}, {"a", "a/b", false}, {"b/a", "a", false}, {"a/b", "a/", false}, {"", "", false}, {"a", "", false}, {"ab/c", "a", false}, {"A/b", "a", false},
	} {
		if got := path.Under(x.p, x.folder); got != x.want {
			t.Errorf("Under(%q, %q) = %v", x.p, x.folder, got)
		}
	}
}
