package index_test

import (
	"math"
	"slices"
	"strconv"
	"strings"
	"testing"

	"sledge/api"
	"sledge/enc"
	"sledge/index"
	"sledge/sha"
)

func f(p, data string) api.File { return api.File{Path: p, Data: data} }

func item(p string, id int, data string) api.Item {
	return api.Item{Path: p, ID: id, Size: len(data), Sum: sha.Sum(data)}
}

func with(t *testing.T, x index.Index, id int, files ...api.File) index.Index {
	t.Helper()
	y, e := x.With(id, files...)
	if e != api.OK {
		t.Fatal(e)
	}
	return y
}

func lists(t *testing.T, x index.Index, want ...api.Item) {
	t.Helper()
	if got := x.List(); !slices.Equal(got, want) || x.Len() != len(want) {
		t.Errorf("%v, not %v", got, want)
	}
}

// 44.1, 44.2
func TestWith(t *testing.T) {
	var zero index.Index
	lists(t, zero)
	x := with(t, zero, 1, f("b", ""), f("a", "x"))
	lists(t, x, item("a", 1, "x"), item("b", 1, ""))
	y := with(t, x, 2, f("a", "yy"))
	lists(t, y, item("a", 2, "yy"), item("b", 1, ""))
	lists(t, x, item("a", 1, "x"), item("b", 1, ""))
	lists(t, with(t, y, 1, f("a", "old"), f("c", "new"), f("b", "same ID")), item("a", 2, "yy"), item("b", 1, "same ID"), item("c", 1, "new"))
	lists(t, with(t, zero, 3, f("a", "1"), f("b", "2"), f("a", "3")), item("a", 3, "3"), item("b", 3, "2"))
	lists(t, with(t, y, 1<<32-1, f("a/b", "z")), item("a", 2, "yy"), item("a/b", 1<<32-1, "z"), item("b", 1, ""))
	lists(t, with(t, y, 9), item("a", 2, "yy"), item("b", 1, ""))
	l := y.List()
	l[0].ID = 99
	lists(t, y, item("a", 2, "yy"), item("b", 1, ""))
	lists(t, y.Without(1), item("a", 2, "yy"))
	lists(t, y.Without(2), item("b", 1, ""))
	lists(t, y.Without(3), item("a", 2, "yy"), item("b", 1, ""))
	lists(t, y.Without(1).Without(2))
	lists(t, y, item("a", 2, "yy"), item("b", 1, ""))
	lists(t, zero.Without(0))
}

// 44.1
func TestWithErrors(t *testing.T) {
	var many []api.File
	for i := range 513 {
		many = append(many, f("f"+strconv.Itoa(i), ""))
	}
	full := with(t, index.Index{}, 5, many[:512]...)
	if full.Len() != 512 || index.Most != 512 {
		t.Error(full.Len())
	}
	for i, x := range []struct {
		x     index.Index
		id    int
		files []api.File
		e     api.Errno
	}{
		{index.Index{}, 0, nil, api.ErrArg}, {index.Index{}, -1, many, api.ErrArg}, {index.Index{}, 1 << 32, []api.File{f("/", "")}, api.ErrArg}, {index.Index{}, math.MinInt, nil, api.ErrArg}, {index.Index{}, 1, []api.File{f("a", ""), f("", "")}, api.ErrPath}, {index.Index{}, 1, []api.File{f("a/../b", "")}, api.ErrPath},
		{index.Index{}, 1, many, api.ErrFull}, {index.Index{}, 1, append(slices.Clone(many), f("/", "")), api.ErrPath}, {full, 9, many[512:], api.ErrFull}, {full, 9, many[:3], api.OK}, {full, 1, many[:512], api.OK}, {full.Without(5), 1, many[1:], api.OK}, {full, 9, nil, api.OK}, {index.Index{}, 7, slices.Repeat(many[:2], 600), api.OK},
	} {
		y, e := x.x.With(x.id, x.files...)
		if e != x.e || e != api.OK && y.Len() > 0 {
			t.Errorf("case %d: %d", i, e)
		}
	}
	if full.Len() != 512 {
		t.Error("changed")
	}
}

// 44.2
func TestQueries(t *testing.T) {
	x := with(t, with(t, with(t, index.Index{}, 7, f("a", "1"), f("dir/b", "2"), f("dir/sub/c", "3")), 3, f("dir", "4"), f("dirt/d", "5")), 9, f("dir/a", "6"))
	for _, p := range []string{"a", "dir/b", "dir/sub/c", "dir", "dirt/d", "dir/a"} {
		y, ok := x.Find(p)
		if !ok || y.Path != p || !slices.Contains(x.List(), y) {
			t.Errorf("Find(%q): %v %v", p, y, ok)
		}
	}
	for _, p := range []string{"", "b", "dir/", "dir/sub", "A", "zzz", "a\x00"} {
		if y, ok := x.Find(p); ok || y != (api.Item{}) {
			t.Errorf("Find(%q): %v %v", p, y, ok)
		}
	}
	for folder, want := range map[string][]string{"": {"a", "dir", "dir/a", "dir/b", "dir/sub/c", "dirt/d"}, "dir": {"dir/a", "dir/b", "dir/sub/c"}, "dir/sub": {"dir/sub/c"}, "a": nil, "dir/": nil, "di": nil, "dirt": {"dirt/d"}} {
		var got []string
		for _, y := range x.Under(folder) {
			got = append(got, y.Path)
		}
		if !slices.Equal(got, want) {
			t.Errorf("Under(%q): %q", folder, got)
		}
	}
	if l := x.Archives(); !slices.Equal(l, []int{3, 7, 9}) || len(index.Index{}.Archives()) > 0 {
		t.Error(l)
	}
	x.Under("")[0].ID = 55
	if y, _ := x.Find("a"); y.ID != 7 {
		t.Error("shared")
	}
}

// 44.2
func TestDiff(t *testing.T) {
	x := with(t, index.Index{}, 1, f("a", "1"), f("b", "2"), f("d", "4"), f("e", "5"), f("g", "7"))
	y := with(t, with(t, index.Index{}, 2, f("a", "1"), f("c", "3"), f("d", "other"), f("h", "8")), 3, f("e", "x"), f("g", "7"))
	want := []index.Change{{Old: item("b", 1, "2")}, {New: item("c", 2, "3")}, {Old: item("d", 1, "4"), New: item("d", 2, "other")}, {Old: item("e", 1, "5"), New: item("e", 3, "x")}, {New: item("h", 2, "8")}}
	if got := x.Diff(y); !slices.Equal(got, want) {
		t.Errorf("%v", got)
	}
	for i := range want {
		want[i].Old, want[i].New = want[i].New, want[i].Old
	}
	if got := y.Diff(x); !slices.Equal(got, want) {
		t.Errorf("%v", got)
	}
	if len(x.Diff(x)) > 0 || len(x.Diff(index.Index{})) != 5 || len(index.Index{}.Diff(x)) != 5 {
		t.Error("ends")
	}
}

// encoded writes files by hand: shared, rest, ID, size, sum.
func encoded(n int, parts ...any) string {
	s := enc.PutNum(n)
	for _, p := range parts {
		switch x := p.(type) {
		case int:
			s += enc.PutNum(x)
		case string:
			s += enc.PutText(x)
		case raw:
			s += string(x)
		}
	}
	return s
}

type raw string

// 44.3
func TestPutAndTake(t *testing.T) {
	sum, none := raw(sha.Sum("x")), raw(sha.Sum(""))
	x := with(t, with(t, index.Index{}, 300, f("dir/a", "x"), f("dir/ab", "")), 1, f("e", strings.Repeat("x", 70000)))
	want := encoded(3, 0, "dir/a", 300, 1, sum, 5, "b", 300, 0, none, 0, "e", 1, 70000, raw(sha.Sum(strings.Repeat("x", 70000))))
	if got := x.Put(); got != want {
		t.Errorf("%x", got)
	}
	if (index.Index{}).Put() != "\x00" {
		t.Error("empty")
	}
	long := strings.Repeat("p", 4096)
	for i, s := range []string{"\x00", want, encoded(1, 0, "a", 1, 0, sum), encoded(1, 0, "a", 1<<32-1, api.MaxNum, sum), encoded(1, 0, long, 1, 0, sum), encoded(2, 0, "a", 1, 0, sum, 1, "/b", 2, 0, sum), encoded(2, 0, "a", 1, 0, sum, 1, " ", 2, 0, sum)} {
		y, e := index.Take(s)
		if e != api.OK || y.Put() != s {
			t.Errorf("string %d: %d", i, e)
		}
		for j := 0; j < len(s); j += 1 + len(s)/90 {
			if y, e := index.Take(s[:j]); e != api.ErrForm || y.Len() > 0 {
				t.Errorf("string %d, cut at %d: %d", i, j, e)
			}
		}
		if y, e := index.Take(s + "x"); e != api.ErrForm || y.Len() > 0 {
			t.Errorf("string %d and more: %d", i, e)
		}
	}
	var many []any
	for i := range 513 {
		many = append(many, 0, string([]byte{byte(1 + i/200), byte(50 + i%200)}), 1, 0, sum)
	}
	for i, x := range []struct {
		s string
		e api.Errno
	}{
		{"", api.ErrForm}, {"\xff", api.ErrForm}, {encoded(513), api.ErrFull}, {encoded(1 << 40), api.ErrFull}, {encoded(513, many...), api.ErrFull}, {encoded(512), api.ErrForm},
		{encoded(1, 0, long+"p", 1, 0, sum), api.ErrFull}, {encoded(1, 0, enc.PutNum(4097)), api.ErrForm}, {encoded(1, 0, raw(enc.PutNum(4097))), api.ErrFull}, {encoded(1, 0, long+"p"), api.ErrFull}, {encoded(1, 5, long+"p"), api.ErrFull},
		{encoded(1, 1, "a", 1, 0, sum), api.ErrForm}, {encoded(2, 0, "a", 1, 0, sum, 2, "b", 1, 0, sum), api.ErrForm}, {encoded(1, 0, "a", 0, 0, sum), api.ErrForm}, {encoded(1, 0, "a", 1<<32, 0, sum), api.ErrForm}, {encoded(1, 0, "", 1, 0, sum), api.ErrForm}, {encoded(1, 0, "/a", 1, 0, sum), api.ErrForm}, {encoded(1, 0, "a", 1, 0, sum[1:]), api.ErrForm},
		{encoded(2, 0, "a", 1, 0, sum, 1, "", 1, 0, sum), api.ErrForm}, {encoded(2, 0, "b", 1, 0, sum, 0, "a", 1, 0, sum), api.ErrForm}, {encoded(2, 0, "ab", 1, 0, sum, 0, "ac", 1, 0, sum), api.ErrForm}, {encoded(2, 0, "ab", 1, 0, sum, 1, "c", 1, 0, sum), api.OK}, {encoded(2, 0, long, 1, 0, sum, 4096, "x", 1, 0, sum), api.ErrForm},
		{"\xf8\x01" + encoded(1, 0, "a", 1, 0, sum)[1:], api.ErrForm}, {encoded(1, raw("\xf8\x00"), "a", 1, 0, sum), api.ErrForm},
	} {
		y, e := index.Take(x.s)
		if e != x.e || e != api.OK && y.Len() > 0 {
			t.Errorf("case %d: %d, not %d", i, e, x.e)
		}
	}
}

// 44.4
func TestOrder(t *testing.T) {
	n := 1
	below := func(m int) int { n = n*6364136223846793005 + 1442695040888963407; return (n >> 33 & 0xffffff) % m }
	for range 100 {
		type archive struct {
			id    int
			files []api.File
		}
		var l []archive
		for id := 1; id < 6; id++ {
			a := archive{id: id}
			for i := range 8 {
				if below(2) == 0 {
					a.files = append(a.files, f("f"+strconv.Itoa(i), strconv.Itoa(below(5))))
				}
			}
			l = append(l, a)
		}
		var x index.Index
		for _, a := range l {
			x = with(t, x, a.id, a.files...)
		}
		for range 5 {
			i, j := below(5), below(5)
			l[i], l[j] = l[j], l[i]
			var y index.Index
			for _, a := range l {
				y = with(t, y, a.id, a.files...)
			}
			if !slices.Equal(x.List(), y.List()) || x.Put() != y.Put() || len(x.Diff(y)) > 0 {
				t.Fatal("another index")
			}
		}
		if y, e := index.Take(x.Put()); e != api.OK || !slices.Equal(x.List(), y.List()) {
			t.Fatal(e)
		}
	}
}
