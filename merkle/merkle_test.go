package merkle_test

import (
	"crypto/sha256"
	"math"
	"slices"
	"strings"
	"testing"

	"sledge/api"
	"sledge/merkle"
)

func sum(w int, s string) string {
	b := sha256.Sum256([]byte(s))
	return string(b[:w])
}

func leaves(w, n int) []string {
	var l []string
	for i := range n {
		l = append(l, sum(w, "\x00leaf"+string(rune(i))))
	}
	return l
}

// root follows RFC 6962 with a cut found by counting.
func root(w int, l []string) string {
	if len(l) == 0 {
		return sum(w, "")
	}
	if len(l) == 1 {
		return l[0]
	}
	k := 1
	for 2*k < len(l) {
		k *= 2
	}
	return sum(w, "\x01"+root(w, l[:k])+root(w, l[k:]))
}

// 15.1
func TestSums(t *testing.T) {
	for w := -2; w <= 40; w++ {
		v := min(max(w, 1), 32)
		if merkle.Width(w) != v || merkle.Sum(w, "a", "", "b") != sum(v, "ab") || merkle.Sum(w) != sum(v, "") || merkle.Leaf(w, "xy") != sum(v, "\x00xy") || merkle.Node(w, "l", "r") != sum(v, "\x01lr") {
			t.Errorf("width %d", w)
		}
	}
	if merkle.Width(math.MinInt) != 1 || merkle.Width(math.MaxInt) != 32 || len(merkle.Leaf(99, "a")) != 32 {
		t.Error("greatest widths")
	}
}

// 15.1
func TestCut(t *testing.T) {
	for n, want := range map[int]int{math.MinInt: 1, -1: 1, 0: 1, 1: 1, 2: 1, 3: 2, 4: 2, 5: 4, 8: 4, 9: 8, 256: 128, 257: 256, 1 << 62: 1 << 61, 1<<62 + 1: 1 << 62, math.MaxInt: 1 << 62} {
		if k := merkle.Cut(n); k != want {
			t.Errorf("Cut(%d) = %d", n, k)
		}
	}
}

// 15.1
func TestRoot(t *testing.T) {
	for _, w := range []int{1, 2, 20, 32} {
		for n := range 70 {
			l := leaves(w, n)
			if got := merkle.Root(w, l...); got != root(w, l) {
				t.Errorf("width %d, %d leaves: %x", w, n, got)
			}
		}
	}
	a, b, c := "a", "bb", "ccc"
	if merkle.Root(32, a, b, c) != merkle.Node(32, merkle.Node(32, a, b), c) || merkle.Root(32, a) != a {
		t.Error("three")
	}
}

// 15.2, 15.3, 15.4
func TestProofs(t *testing.T) {
	for _, w := range []int{1, 32} {
		for n := 1; n < 40; n++ {
			l := leaves(w, n)
			keep := slices.Clone(l)
			for i := range n {
				p, e := merkle.Proof(w, i, l...)
				if e != api.OK {
					t.Fatal(n, i, e)
				}
				way := merkle.Way(i, n)
				if len(way) != len(p) {
					t.Fatalf("leaf %d of %d: %d sums, a way of %d", i, n, len(p), len(way))
				}
				s := l[i]
				for j := range p {
					if way[j] {
						s = merkle.Node(w, p[j], s)
					} else {
						s = merkle.Node(w, s, p[j])
					}
				}
				if got, e := merkle.Up(w, i, n, l[i], p...); got != root(w, l) || got != s || e != api.OK {
					t.Errorf("leaf %d of %d: %x %d", i, n, got, e)
				}
				if e := merkle.Check(w, root(w, l), i, n, l[i], p...); e != api.OK {
					t.Errorf("leaf %d of %d: %d", i, n, e)
				}
			}
			if !slices.Equal(l, keep) {
				t.Fatal("arguments are changed")
			}
			for _, i := range []int{-1, n, math.MinInt, math.MaxInt} {
				if p, e := merkle.Proof(w, i, l...); e != api.ErrArg || len(p) > 0 {
					t.Errorf("leaf %d of %d: %d", i, n, e)
				}
			}
		}
	}
	if p, e := merkle.Proof(32, 0); e != api.ErrArg || len(p) > 0 {
		t.Error("no leaves")
	}
	l := leaves(32, 3)
	if p, _ := merkle.Proof(32, 2, l...); !slices.Equal(p, []string{merkle.Node(32, l[0], l[1])}) {
		t.Error("the third of three")
	}
	if p, _ := merkle.Proof(32, 0, l...); !slices.Equal(p, []string{l[1], l[2]}) {
		t.Error("the first of three")
	}
}

// R4
func TestMemory(t *testing.T) {
	l := append(leaves(32, 7), "behind")
	keep := slices.Clone(l)
	p, _ := merkle.Proof(32, 2, l[:7]...)
	merkle.Root(32, l[:7]...)
	merkle.Up(32, 2, 7, l[2], p[:len(p):len(p)]...)
	p = append(p, "more")
	p[0] = "changed"
	if !slices.Equal(l, keep) {
		t.Error("changed")
	}
	way := merkle.Way(2, 7)
	way[0] = !way[0]
	if slices.Equal(way, merkle.Way(2, 7)) {
		t.Error("shared")
	}
}

// 15.3
func TestWay(t *testing.T) {
	for _, x := range []struct {
		i, n int
		want []bool
	}{
		{0, 1, nil}, {0, 2, []bool{false}}, {1, 2, []bool{true}}, {2, 3, []bool{true}}, {1, 3, []bool{true, false}}, {4, 5, []bool{true}}, {5, 7, []bool{true, false, true}}, {2, 5, []bool{false, true, false}},
		{0, 0, nil}, {-1, 5, nil}, {5, 5, nil}, {0, -1, nil}, {math.MinInt, math.MinInt, nil}, {math.MaxInt, math.MaxInt, nil},
		{math.MaxInt - 1, math.MaxInt, slices.Repeat([]bool{true}, 62)}, {0, 1 << 62, make([]bool, 62)},
	} {
		if got := merkle.Way(x.i, x.n); !slices.Equal(got, x.want) {
			t.Errorf("Way(%d, %d) = %v", x.i, x.n, got)
		}
	}
}

// 15.3
func TestErrors(t *testing.T) {
	l := leaves(8, 6)
	p, _ := merkle.Proof(8, 2, l...)
	r := root(8, l)
	long := slices.Clone(p)
	long[1] += "x"
	short := slices.Clone(p)
	short[2] = short[2][1:]
	other := slices.Clone(p)
	other[0] = "otherxxx"
	turned := []string{p[1], p[0], p[2]}
	for i, x := range []struct {
		w    int
		root string
		i, n int
		leaf string
		p    []string
		e    api.Errno
	}{
		{8, r, 2, 6, l[2], p, api.OK}, {8, r, 2, 6, l[2], p[1:], api.ErrForm}, {8, r, 2, 6, l[2], p[:2], api.ErrForm}, {8, r, 2, 6, l[2], append(slices.Clone(p), p[0]), api.ErrForm}, {8, r, 2, 6, l[2], nil, api.ErrForm},
		{8, r, 2, 6, l[2][1:], p, api.ErrForm}, {8, r, 2, 6, l[2] + "x", p, api.ErrForm}, {8, r, 2, 6, "", p, api.ErrForm}, {8, r, 2, 6, l[2], long, api.ErrForm}, {8, r, 2, 6, l[2], short, api.ErrForm}, {7, r, 2, 6, l[2], p, api.ErrForm},
		{8, r, -1, 6, "", nil, api.ErrArg}, {8, r, 6, 6, l[2], p, api.ErrArg}, {8, r, 0, 0, l[2], p, api.ErrArg}, {8, r, 0, -1, l[2], nil, api.ErrArg}, {8, r, math.MaxInt, math.MinInt, l[2], nil, api.ErrArg},
		{8, r, 2, 6, l[3], p, api.ErrRoot}, {8, r, 3, 6, l[2], p, api.ErrRoot}, {8, r, 2, 6, l[2], other, api.ErrRoot}, {8, r, 2, 6, l[2], turned, api.ErrRoot}, {8, r[1:], 2, 6, l[2], p, api.ErrRoot}, {8, r + "x", 2, 6, l[2], p, api.ErrRoot}, {8, "", 2, 6, l[2], p, api.ErrRoot},
		{8, r, 2, 9, l[2], p, api.ErrForm}, {8, l[0], 0, 1, l[0], nil, api.OK}, {8, l[1], 0, 1, l[0], nil, api.ErrRoot},
	} {
		if e := merkle.Check(x.w, x.root, x.i, x.n, x.leaf, x.p...); e != x.e {
			t.Errorf("Check, case %d: %d, not %d", i, e, x.e)
		}
		s, e := merkle.Up(x.w, x.i, x.n, x.leaf, x.p...)
		if want := x.e; want != api.ErrRoot && e != want || want == api.ErrRoot && (e != api.OK || len(s) != 8) || e != api.OK && s != "" {
			t.Errorf("Up, case %d: %x %d", i, s, e)
		}
	}
	one := strings.Repeat("s", 32)
	if s, e := merkle.Up(99, 0, 1, one); s != one || e != api.OK {
		t.Error("a single leaf")
	}
}
