package filemap_test

import (
	"slices"
	"strings"
	"testing"

	"sledge/api"
	"sledge/enc"
	"sledge/filemap"
)

func f(p, data string) api.File { return api.File{Path: p, Data: data} }

func many(n int) []api.File {
	var l []api.File
	for i := range n {
		l = append(l, f(string(rune('0'+i%64))+"x", strings.Repeat("d", i)))
	}
	return l
}

// 12.1
func TestSort(t *testing.T) {
	l := []api.File{f("b", "1"), f("a/b", "2"), f("b", "3"), f("a-", "4"), f("a", "5"), f("b", "0"), f("", "6"), f("B", "7")}
	keep := slices.Clone(l)
	got := filemap.Sort(l...)
	want := []api.File{f("", "6"), f("B", "7"), f("a", "5"), f("a-", "4"), f("a/b", "2"), f("b", "1"), f("b", "3"), f("b", "0")}
	if !slices.Equal(got, want) || !slices.Equal(l, keep) {
		t.Error(got, l)
	}
	if len(filemap.Sort()) > 0 {
		t.Error("nothing")
	}
	sorted := []api.File{f("a", ""), f("b", "")}
	filemap.Sort(sorted...)[0].Path = "z"
	if sorted[0].Path != "a" {
		t.Error("shared")
	}
}

// 12.1, 12.2
func TestCheck(t *testing.T) {
	big := strings.Repeat("x", api.MaxData)
	for i, x := range []struct {
		l []api.File
		e api.Errno
	}{
		{nil, api.OK}, {[]api.File{f("a", "")}, api.OK}, {[]api.File{f("b", "x"), f("a", "")}, api.OK},
		{many(64), api.OK}, {many(65), api.ErrFull}, {slices.Repeat([]api.File{f("", "")}, 65), api.ErrFull},
		{[]api.File{f("a", big)}, api.OK}, {[]api.File{f("a", big+"x")}, api.ErrFull},
		{[]api.File{f("a//b", big+"x")}, api.ErrPath}, {[]api.File{f("a", big+"x"), f("/", "")}, api.ErrFull}, {[]api.File{f("/", ""), f("a", big+"x")}, api.ErrPath},
		{[]api.File{f("a", ""), f("a", ""), f("", "")}, api.ErrPath}, {[]api.File{f("a", ""), f("a", ""), f("b", big+"x")}, api.ErrFull},
		{[]api.File{f("a", "1"), f("a", "2")}, api.ErrDup}, {[]api.File{f("a", "1"), f("b", ""), f("a", "1")}, api.ErrDup},
		{[]api.File{f("a", ""), f("a/b", "")}, api.ErrDup}, {[]api.File{f("a/b", ""), f("a", "")}, api.ErrDup},
		{[]api.File{f("a", ""), f("a-b", ""), f("a/b/c", "")}, api.ErrDup}, {[]api.File{f("a/b", ""), f("a/c", ""), f("ab", "")}, api.OK},
		{[]api.File{f("a/b", ""), f("a/bc", ""), f("a-", "")}, api.OK}, {[]api.File{f("x/y/z", ""), f("x/y", ""), f("w", "")}, api.ErrDup},
	} {
		if e := filemap.Check(x.l...); e != x.e {
			t.Errorf("Check of list %d: %d, not %d", i, e, x.e)
		}
		s, e := filemap.Put(x.l...)
		if e != x.e || e != api.OK && s != "" {
			t.Errorf("Put of list %d: %d, not %d", i, e, x.e)
		}
		if e != api.OK {
			continue
		}
		got, e := filemap.Take(s)
		if e != api.OK || !slices.Equal(got, filemap.Sort(x.l...)) {
			t.Errorf("Take of list %d: %d", i, e)
		}
	}
}

// 12.2
func TestPut(t *testing.T) {
	if s, e := filemap.Put(f("b", "x"), f("a", "")); s != "\x02\x01a\x00\x01b\x01x" || e != api.OK {
		t.Errorf("%x %d", s, e)
	}
	if s, e := filemap.Put(); s != "\x00" || e != api.OK {
		t.Errorf("%x %d", s, e)
	}
	long := strings.Repeat("y", 300)
	if s, e := filemap.Put(f("p/"+long, long)); s != "\x01"+enc.PutText("p/"+long)+enc.PutText(long) || e != api.OK {
		t.Errorf("%x %d", s, e)
	}
}

// 12.3
func TestTake(t *testing.T) {
	text := enc.PutText
	big := strings.Repeat("x", api.MaxData)
	for i, x := range []struct {
		s string
		l []api.File
		e api.Errno
	}{
		{"\x00", nil, api.OK},
		{"\x02\x01a\x00\x01b\x01x", []api.File{f("a", ""), f("b", "x")}, api.OK},
		{"", nil, api.ErrForm}, {"\xff", nil, api.ErrForm}, {"\xf8\x02", nil, api.ErrForm},
		{"\x41", nil, api.ErrFull}, {"\x40", nil, api.ErrForm}, {enc.PutNum(1 << 50), nil, api.ErrFull},
		{"\x00x", nil, api.ErrForm}, {"\x01\x01a\x00x", nil, api.ErrForm}, {"\x01\x01a", nil, api.ErrForm}, {"\x01\x02a", nil, api.ErrForm}, {"\x01\x01a\x01", nil, api.ErrForm},
		{"\x01" + text(strings.Repeat("p", 4096)) + "\x00", []api.File{f(strings.Repeat("p", 4096), "")}, api.OK},
		{"\x01" + text(strings.Repeat("p", 4097)) + "\x00", nil, api.ErrFull}, {"\x01" + enc.PutNum(4097), nil, api.ErrFull},
		{"\x01\x01a" + text(big), []api.File{f("a", big)}, api.OK}, {"\x01\x01a" + text(big+"x"), nil, api.ErrFull}, {"\x01\x00" + enc.PutNum(1<<20+1), nil, api.ErrFull},
		{"\x01\x02/a\x00", nil, api.ErrPath}, {"\x01\x02/a\x01", nil, api.ErrForm}, {"\x01\x00\x00", nil, api.ErrPath}, {"\x01\x02/a\x00x", nil, api.ErrPath},
		{"\x02\x01b\x00\x01a\x00", nil, api.ErrForm}, {"\x02\x01b\x00\x02/a\x00", nil, api.ErrPath}, {"\x03\x01b\x00\x01a\x00", nil, api.ErrForm}, {"\x03\x01b\x00\x01a\x00\x01/\x00", nil, api.ErrForm},
		{"\x02\x01a\x00\x03a/b\x00", nil, api.ErrDup}, {"\x03\x01a\x00\x03a-b\x00\x03a/b\x00", nil, api.ErrDup}, {"\x02\x01a\x00\x03a/b\x00x", nil, api.ErrForm},
		{"\x03\x01a\x00\x03a/b\x00\x02/c\x00", nil, api.ErrPath}, {"\x02\x03a/b\x00\x01a\x00", nil, api.ErrForm},
	} {
		l, e := filemap.Take(x.s)
		if e != x.e || !slices.Equal(l, x.l) {
			t.Errorf("Take of string %d, %.30x: %.30v %d", i, x.s, l, e)
		}
	}
	if _, e := filemap.Take("\x02\x01a\x00\x01a\x01x"); e != api.ErrForm && e != api.ErrDup {
		t.Errorf("a path twice: %d", e)
	}
}

// R4
func TestMemory(t *testing.T) {
	l := []api.File{f("c", "3"), f("a", "1"), f("b", "2"), f("/", "behind")}
	keep := slices.Clone(l)
	filemap.Sort(l[:3]...)
	if e := filemap.Check(l[:3]...); e != api.OK {
		t.Error(e)
	}
	if s, e := filemap.Put(l[:3]...); s != "\x03\x01a\x011\x01b\x012\x01c\x013" || e != api.OK {
		t.Error(e)
	}
	if !filemap.Same(l[:3], []api.File{l[1], l[0], l[2]}) || !slices.Equal(l, keep) {
		t.Error("changed")
	}
}

// 12.4
func TestSame(t *testing.T) {
	a, b, c := f("a", "1"), f("b", "2"), f("c", "3")
	for i, x := range []struct {
		l, m []api.File
		want bool
	}{
		{nil, []api.File{}, true}, {[]api.File{a, b, c}, []api.File{c, a, b}, true}, {[]api.File{a}, []api.File{a, a}, false}, {[]api.File{a, b}, []api.File{a, c}, false},
		{[]api.File{a}, []api.File{f("a", "2")}, false}, {[]api.File{a}, []api.File{f("A", "1")}, false}, {nil, []api.File{a}, false},
		{[]api.File{f("a", "1"), f("a", "2")}, []api.File{f("a", "2"), f("a", "1")}, false}, {[]api.File{f("/", "1"), b}, []api.File{b, f("/", "1")}, true},
	} {
		keep, keep2 := slices.Clone(x.l), slices.Clone(x.m)
		if got := filemap.Same(x.l, x.m); got != x.want || !slices.Equal(keep, x.l) || !slices.Equal(keep2, x.m) {
			t.Errorf("lists %d: %v", i, got)
		}
	}
}

// 12.5
func TestCanonical(t *testing.T) {
	l := many(64)
	want, _ := filemap.Put(l...)
	for i := range 20 {
		l[i], l[63-i*2] = l[63-i*2], l[i]
		s, e := filemap.Put(l...)
		if s != want || e != api.OK {
			t.Fatal("another encoding", i, e)
		}
	}
	got, e := filemap.Take(want)
	if e != api.OK || !slices.IsSortedFunc(got, func(a, b api.File) int { return strings.Compare(a.Path, b.Path) }) {
		t.Error(e)
	}
	for i := range len(want) {
		for _, by := range []byte{1, 0x80} {
			b := []byte(want)
			b[i] ^= by
			if l, e := filemap.Take(string(b)); e == api.OK {
				if s, e := filemap.Put(l...); s != string(b) || e != api.OK {
					t.Errorf("with byte %d changed", i)
				}
			}
		}
	}
}
