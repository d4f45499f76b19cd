package bitset_test

import (
	"math"
	"slices"
	"strings"
	"testing"

	"sledge/api"
	"sledge/bitset"
)

func set(n int, l ...int) bitset.Set {
	s := bitset.New(n)
	for _, i := range l {
		s = s.With(i)
	}
	return s
}

// 22.1
func TestNewAndSize(t *testing.T) {
	for n, want := range map[int]int{0: 0, 1: 1, 64: 64, 256: 256, 257: 256, -1: 0, math.MinInt: 0, math.MaxInt: 256} {
		if s := bitset.New(n); s.Size() != want || s.Count() != 0 || len(s.List()) > 0 || s.Full() != (want == 0) {
			t.Errorf("New(%d): %d", n, s.Size())
		}
	}
	var zero bitset.Set
	if zero.Size() != 0 || zero != bitset.New(0) || zero != bitset.New(-4) || !zero.Full() {
		t.Error("the zero value")
	}
}

// 22.1
func TestElements(t *testing.T) {
	for _, n := range []int{0, 1, 5, 63, 64, 65, 128, 200, 256} {
		s := bitset.New(n)
		have := map[int]bool{}
		x := n
		for step := range 600 {
			x = x*6364136223846793005 + 1442695040888963407
			i := (x>>33&0xfff)%270 - 5
			before := s
			if x>>50&3 > 0 || step > 500 {
				s = s.With(i)
				have[i] = i >= 0 && i < n
			} else {
				s = s.Without(i)
				have[i] = false
			}
			if before.Has(i) == have[i] && before != s {
				t.Fatal("changed without reason")
			}
			var l []int
			for j := range n {
				if have[j] {
					l = append(l, j)
				}
			}
			if s.Has(i) != have[i] || s.Count() != len(l) || !slices.Equal(s.List(), l) || s.Full() != (len(l) == n) || s.Size() != n {
				t.Fatalf("size %d, step %d: %v, not %v", n, step, s.List(), l)
			}
			if s != set(n, l...) {
				t.Fatal("not ==")
			}
		}
	}
	s := set(10, 3)
	for _, i := range []int{-1, 10, 64, 255, 256, math.MinInt, math.MaxInt} {
		if s.Has(i) || s.With(i) != s || s.Without(i) != s {
			t.Error(i)
		}
	}
	all := bitset.New(256)
	for i := range 256 {
		if all.Full() {
			t.Error("full too early", i)
		}
		all = all.With(i)
	}
	if !all.Full() || all.Count() != 256 || all.Without(77).Full() {
		t.Error("full")
	}
	if set(5) == set(6) || set(5, 1) == set(6, 1) || set(5, 1) == set(5, 2) || set(5, 1).Without(1) != set(5) {
		t.Error("==")
	}
}

// 22.1
func TestNext(t *testing.T) {
	s := set(130, 0, 63, 64, 129)
	for _, x := range []struct {
		from int
		in   bool
		want int
	}{
		{0, true, 0}, {-1, true, 0}, {math.MinInt, true, 0}, {1, true, 63}, {63, true, 63}, {64, true, 64}, {65, true, 129}, {129, true, 129}, {130, true, -1}, {math.MaxInt, true, -1},
		{0, false, 1}, {-9, false, 1}, {63, false, 65}, {64, false, 65}, {128, false, 128}, {129, false, -1}, {130, false, -1}, {math.MaxInt, false, -1},
	} {
		if got := s.Next(x.from, x.in); got != x.want {
			t.Errorf("Next(%d, %v) = %d", x.from, x.in, got)
		}
	}
	if set(0).Next(0, true) != -1 || set(0).Next(0, false) != -1 || set(256, 255).Next(0, true) != 255 || set(256).Next(255, false) != 255 {
		t.Error("ends")
	}
}

// 22.1
func TestWithinAndOr(t *testing.T) {
	for _, x := range []struct {
		a, b, or bitset.Set
		ab, ba   bool
	}{
		{set(5), set(5), set(5), true, true}, {set(5, 1), set(5, 1, 2), set(5, 1, 2), true, false}, {set(5, 1), set(5, 2), set(5, 1, 2), false, false}, {set(0), set(256, 255), set(256, 255), true, false},
		{set(200, 3), set(4, 3), set(200, 3), true, true}, {set(200, 3, 199), set(4, 3), set(200, 3, 199), false, true}, {set(10), set(3), set(10), true, true}, {set(256, 0, 64, 128, 192), set(256, 0, 64, 128), set(256, 0, 64, 128, 192), false, true},
	} {
		if x.a.Within(x.b) != x.ab || x.b.Within(x.a) != x.ba || x.a.Or(x.b) != x.or || x.b.Or(x.a) != x.or {
			t.Errorf("%v of %d, %v of %d", x.a.List(), x.a.Size(), x.b.List(), x.b.Size())
		}
	}
}

// 22.2
func TestPut(t *testing.T) {
	z := strings.Repeat("\x00", 8)
	for _, x := range []struct {
		s    bitset.Set
		want string
	}{
		{set(5, 3, 0), z[1:] + "\x09" + z + z + z}, {set(0), z + z + z + z}, {set(256, 63, 64, 129, 255), "\x80" + z[1:] + z[1:] + "\x01" + z[1:] + "\x02" + "\x80" + z[1:]},
	} {
		if got := x.s.Put(); got != x.want || len(got) != bitset.Bytes || bitset.Bytes != 32 {
			t.Errorf("%v: %x", x.s.List(), got)
		}
	}
}

// 22.2, 22.3
func TestTake(t *testing.T) {
	x := 1
	for i := range 300 {
		n := i % 257
		s := bitset.New(n)
		for j := range n {
			x = x*6364136223846793005 + 1442695040888963407
			if x>>40&1 == 1 || i > 256 {
				s = s.With(j)
			}
		}
		if got, e := bitset.Take(n, s.Put()); got != s || e != api.OK {
			t.Errorf("size %d: %v %d", n, got.List(), e)
		}
		if n < 256 {
			if got, e := bitset.Take(n, s.Or(set(256, n)).Put()); got != (bitset.Set{}) || e != api.ErrForm {
				t.Errorf("size %d with %d: %d", n, n, e)
			}
			if got, e := bitset.Take(n, s.Or(set(256, 255)).Put()); got != (bitset.Set{}) || e != api.ErrForm {
				t.Errorf("size %d with 255: %d", n, e)
			}
		}
	}
	good := set(5, 1).Put()
	for _, x := range []struct {
		n int
		t string
		e api.Errno
	}{
		{-1, good, api.ErrArg}, {257, good, api.ErrArg}, {math.MinInt, "", api.ErrArg}, {math.MaxInt, "x", api.ErrArg}, {5, "", api.ErrForm}, {5, good[1:], api.ErrForm}, {5, good + "\x00", api.ErrForm}, {1, good, api.ErrForm}, {0, good, api.ErrForm}, {2, good, api.OK},
	} {
		s, e := bitset.Take(x.n, x.t)
		if e != x.e || e != api.OK && s != (bitset.Set{}) || e == api.OK && s != set(2, 1) {
			t.Errorf("Take(%d, %x): %v %d", x.n, x.t, s.List(), e)
		}
	}
}
