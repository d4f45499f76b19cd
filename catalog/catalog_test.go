package catalog_test

import (
	"math"
	"slices"
	"strings"
	"testing"

	"sledge/api"
	"sledge/catalog"
	"sledge/header"
)

func entry(n, base int) api.Extent {
	return api.Extent{Head: api.Header{ID: 7, Salt: "0123456789abcdef", N: n, Bytes: n*192 - 5, Raw: 70000, Root: strings.Repeat("r", 32), Tag: strings.Repeat("t", 32)}, Base: base}
}

// 24.1, 24.3
func TestGood(t *testing.T) {
	for i, x := range []api.Extent{entry(5, 13), entry(1, 0), entry(1, 1023), entry(256, 768), entry(256, 0), entry(2, 1022)} {
		if e := catalog.Check(x); e != api.OK {
			t.Errorf("entry %d: %d", i, e)
		}
		s, e := catalog.Put(x)
		h, _ := header.Put(x.Head)
		if s != "SLC1"+h+string([]byte{byte(x.Base >> 8), byte(x.Base)}) || len(s) != 104 || e != api.OK {
			t.Errorf("entry %d: %x %d", i, s, e)
		}
		for _, zeros := range []int{0, 1, 152, 1000} {
			if got, e := catalog.Take(s + strings.Repeat("\x00", zeros)); got != x || e != api.OK {
				t.Errorf("entry %d, %d zeros: %d", i, zeros, e)
			}
		}
	}
}

// 24.1
func TestWrong(t *testing.T) {
	id := entry(5, 13)
	id.Head.ID = 0
	for i, x := range []api.Extent{id, {}, entry(5, -1), entry(5, 1020), entry(1, 1024), entry(256, 769), entry(5, math.MaxInt), entry(5, math.MinInt), entry(5, 1<<16+13)} {
		if e := catalog.Check(x); e != api.ErrArg {
			t.Errorf("entry %d: %d", i, e)
		}
		if s, e := catalog.Put(x); s != "" || e != api.ErrArg {
			t.Errorf("entry %d: %d", i, e)
		}
	}
	s, _ := catalog.Put(entry(5, 256))
	for _, x := range []struct {
		s string
		e api.Errno
	}{
		{"", api.ErrNone}, {"\x00", api.ErrNone}, {strings.Repeat("\x00", 256), api.ErrNone}, {"x", api.ErrForm}, {strings.Repeat("\x00", 255) + "\x01", api.ErrForm}, {"SLC1", api.ErrForm},
		{s[:103], api.ErrForm}, {s[1:] + "\x00", api.ErrForm}, {s + "x", api.ErrForm}, {s + strings.Repeat("\x00", 100) + "\x01", api.ErrForm}, {"SLJ1" + s[4:], api.ErrForm}, {"\x00" + s, api.ErrForm}, {s + s, api.ErrForm},
		{s[:4] + "x" + s[5:], api.ErrForm}, {s[:102] + "\x03\xfc", api.ErrForm}, {s[:102] + "\xff\xff", api.ErrForm}, {s[:102] + "\x03\xfb", api.OK},
	} {
		got, e := catalog.Take(x.s)
		if e != x.e || e != api.OK && got != (api.Extent{}) || e == api.OK && got != entry(5, 1019) {
			t.Errorf("%x: %+v %d", x.s, got, e)
		}
	}
}

// 24.2
func TestMeet(t *testing.T) {
	for n := 1; n < 6; n++ {
		for m := 1; m < 6; m++ {
			for base := 10; base < 30; base++ {
				x, y := entry(n, base), entry(m, 20)
				want := false
				for i := range n {
					for j := range m {
						want = want || base+i == 20+j
					}
				}
				if catalog.Meet(x, y) != want || catalog.Meet(y, x) != want {
					t.Errorf("%d at %d, %d at 20: %v", n, base, m, !want)
				}
			}
		}
	}
}

// room tries each sector.
func room(from, to, n int, l []api.Extent) (int, bool) {
	if n < 1 || from < 0 {
		return 0, false
	}
	for at := from; at+n <= to; at++ {
		free := true
		for _, x := range l {
			for i := range n {
				free = free && (at+i < x.Base || at+i >= x.Base+x.Head.N)
			}
		}
		if free {
			return at, true
		}
	}
	return 0, false
}

// 24.2, 24.3
func TestRoom(t *testing.T) {
	used := []api.Extent{entry(10, 20), entry(3, 12)}
	for _, x := range []struct {
		from, to, n, at int
		ok              bool
	}{
		{10, 100, 5, 15, true}, {10, 100, 6, 30, true}, {10, 100, 2, 10, true}, {10, 100, 3, 15, true}, {10, 36, 6, 30, true}, {10, 35, 6, 0, false}, {13, 20, 5, 15, true}, {13, 19, 5, 0, false}, {14, 100, 1, 15, true}, {16, 100, 4, 16, true}, {17, 100, 4, 30, true}, {25, 100, 1, 30, true}, {50, 100, 50, 50, true}, {50, 100, 51, 0, false},
		{10, 100, 0, 0, false}, {10, 100, -1, 0, false}, {-1, 100, 1, 0, false}, {0, 0, 1, 0, false}, {100, 10, 1, 0, false}, {0, 1, 1, 0, true}, {0, math.MaxInt, 1000, 30, true}, {0, math.MaxInt, math.MaxInt, 0, false},
		{math.MaxInt, math.MaxInt, 1, 0, false}, {math.MinInt, math.MaxInt, math.MaxInt, 0, false}, {0, math.MinInt, math.MaxInt, 0, false}, {0, math.MinInt, 1, 0, false}, {math.MaxInt - 5, math.MaxInt, 5, math.MaxInt - 5, true}, {math.MaxInt - 5, math.MaxInt, math.MaxInt, 0, false}, {0, 50, math.MinInt, 0, false},
	} {
		if at, ok := catalog.Room(x.from, x.to, x.n, used...); at != x.at || ok != x.ok {
			t.Errorf("Room(%d, %d, %d) = %d %v", x.from, x.to, x.n, at, ok)
		}
	}
	if at, ok := catalog.Room(13, 20, 7); at != 13 || !ok {
		t.Error("nothing in use")
	}
	n := 1
	for range 3000 {
		next := func(most int) int { n = n*6364136223846793005 + 1442695040888963407; return (n >> 33 & 0xffff) % most }
		var l []api.Extent
		for range next(7) {
			l = append(l, entry(1+next(6), next(40)))
		}
		from, to, want := next(30), next(60), 1+next(8)
		keep := slices.Clone(l)
		at, ok := catalog.Room(from, to, want, l...)
		at2, ok2 := room(from, to, want, l)
		if at != at2 || ok != ok2 || !slices.Equal(l, keep) {
			t.Fatalf("from %d to %d, %d sectors, %v: %d %v, not %d %v", from, to, want, l, at, ok, at2, ok2)
		}
		for _, x := range l {
			if ok && catalog.Meet(x, entry(want, at)) {
				t.Fatal("meets an entry")
			}
		}
	}
}
