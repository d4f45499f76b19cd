package consist_test

import (
	"math"
	"slices"
	"strings"
	"testing"

	"sledge/api"
	"sledge/clash"
	"sledge/consist"
	"sledge/merkle"
)

func leaves(w, n int) []string {
	var l []string
	for i := range n {
		l = append(l, merkle.Leaf(w, "leaf "+string(rune('0'+i))))
	}
	return l
}

// sub follows the definition.
func sub(w, m int, whole bool, l []string) []string {
	if m == len(l) {
		if whole {
			return nil
		}
		return []string{merkle.Root(w, l...)}
	}
	k := merkle.Cut(len(l))
	if m <= k {
		return append(sub(w, m, whole, l[:k]), merkle.Root(w, l[k:]...))
	}
	return append(sub(w, m-k, false, l[k:]), merkle.Root(w, l[:k]...))
}

// 40.1, 40.2, 40.4
func TestProofs(t *testing.T) {
	for _, w := range []int{0, 1, 20, 32, 99} {
		for n := 1; n <= 33; n++ {
			l := leaves(w, n)
			keep := slices.Clone(l)
			all := merkle.Root(w, l...)
			for m := 1; m <= n; m++ {
				p, e := consist.Prove(w, m, l...)
				if e != api.OK || !slices.Equal(p, sub(w, m, true, l)) {
					t.Fatalf("%d of %d: %d", m, n, e)
				}
				first := merkle.Root(w, l[:m]...)
				if a, b, e := consist.Roots(w, m, n, first, p...); a != first || b != all || e != api.OK {
					t.Errorf("%d of %d: %d", m, n, e)
				}
				if e := consist.Check(w, m, n, first, all, p...); e != api.OK {
					t.Errorf("%d of %d: %d", m, n, e)
				}
				if x, y, ok := consist.Clash(w, m, first, p, l...); x != "" || y != "" || ok {
					t.Errorf("%d of %d: a clash", m, n)
				}
			}
			for _, m := range []int{0, -1, n + 1, math.MinInt, math.MaxInt} {
				if p, e := consist.Prove(w, m, l...); len(p) > 0 || e != api.ErrArg {
					t.Errorf("%d of %d: %d", m, n, e)
				}
			}
			if !slices.Equal(l, keep) {
				t.Fatal("arguments are changed")
			}
		}
	}
	if p, e := consist.Prove(32, 0); len(p) > 0 || e != api.ErrArg {
		t.Error("no sums")
	}
	l := leaves(32, 7)
	want := []string{l[2], l[3], merkle.Node(32, l[0], l[1]), merkle.Root(32, l[4:]...)}
	if p, _ := consist.Prove(32, 3, l...); !slices.Equal(p, want) {
		t.Error("3 of 7")
	}
}

// R4
func TestMemory(t *testing.T) {
	l := append(leaves(32, 7), "behind")
	keep := slices.Clone(l)
	p, _ := consist.Prove(32, 3, l[:7]...)
	q := append(slices.Clone(p), "behind")
	if _, _, e := consist.Roots(32, 3, 7, merkle.Root(32, l[:3]...), q[:len(p)]...); e != api.OK {
		t.Error(e)
	}
	consist.Clash(32, 3, merkle.Root(32, l[:3]...), q[:len(p)], l[:7]...)
	p[0] = "changed"
	if !slices.Equal(l, keep) || q[len(q)-1] != "behind" || q[0] != l[2] {
		t.Error("changed")
	}
}

// 40.2
func TestErrors(t *testing.T) {
	l := leaves(8, 7)
	p, _ := consist.Prove(8, 3, l...)
	first, all := merkle.Root(8, l[:3]...), merkle.Root(8, l...)
	four, _ := consist.Prove(8, 4, l...)
	changed := func(i int, s string) []string { q := slices.Clone(p); q[i] = s; return q }
	for i, x := range []struct {
		w, m, n    int
		first, all string
		p          []string
		e          api.Errno
	}{
		{8, 3, 7, first, all, p, api.OK}, {8, 3, 7, first, all, append(slices.Clone(p), p[0]), api.ErrForm}, {8, 3, 7, first, all, p[1:], api.ErrForm}, {8, 3, 7, first, all, p[:3], api.ErrForm}, {8, 3, 7, first, all, nil, api.ErrForm},
		{8, 0, 7, first, all, p, api.ErrArg}, {8, -1, 7, first, all, p, api.ErrArg}, {8, 8, 7, first, all, p, api.ErrArg}, {8, 3, -7, "", all, nil, api.ErrArg}, {8, math.MaxInt, math.MinInt, "", all, nil, api.ErrArg}, {8, 0, 0, first, all, nil, api.ErrArg},
		{8, 3, 7, first + "x", all, p, api.ErrForm}, {8, 3, 7, first[1:], all, p, api.ErrForm}, {8, 3, 7, "", all, p, api.ErrForm}, {8, 3, 7, first, all, changed(0, "short"), api.ErrForm}, {8, 3, 7, first, all, changed(3, "too long."), api.ErrForm}, {8, 3, 7, first, all, changed(2, ""), api.ErrForm}, {7, 3, 7, first, all, p, api.ErrForm},
		{8, 3, 7, first, all, changed(0, "12345678"), api.ErrRoot}, {8, 3, 7, first, all, changed(1, "12345678"), api.ErrRoot}, {8, 3, 7, first, all, changed(2, "12345678"), api.ErrRoot}, {8, 3, 7, first, all, changed(3, "12345678"), api.ErrRoot},
		{8, 3, 7, "12345678", all, p, api.ErrRoot}, {8, 3, 7, first, "12345678", p, api.ErrRoot}, {8, 3, 7, first, all[1:], p, api.ErrRoot}, {8, 3, 7, first, "", p, api.ErrRoot}, {8, 3, 7, all, first, p, api.ErrRoot}, {8, 3, 9, first, all, p, api.ErrForm},
		{8, 7, 7, all, all, nil, api.OK}, {8, 7, 7, first, all, nil, api.ErrRoot}, {8, 7, 7, first, first, nil, api.OK}, {8, 7, 7, all, all, p[:1], api.ErrForm}, {8, 4, 7, merkle.Root(8, l[:4]...), all, four, api.OK}, {8, 4, 7, first, all, four, api.ErrRoot}, {8, 1, 1, "12345678", "12345678", nil, api.OK},
	} {
		if e := consist.Check(x.w, x.m, x.n, x.first, x.all, x.p...); e != x.e {
			t.Errorf("Check, case %d: %d, not %d", i, e, x.e)
		}
		a, b, e := consist.Roots(x.w, x.m, x.n, x.first, x.p...)
		if x.e == api.ErrRoot && (e != api.OK || len(a) != 8 || len(b) != 8) || x.e != api.ErrRoot && e != x.e || e != api.OK && (a != "" || b != "") {
			t.Errorf("Roots, case %d: %d", i, e)
		}
	}
	s := strings.Repeat("s", 32)
	if _, b, e := consist.Roots(32, 1, math.MaxInt, s, slices.Repeat([]string{s}, 63)...); e != api.OK || len(b) != 32 {
		t.Error("a great tree", e)
	}
	if a, _, e := consist.Roots(32, math.MaxInt-1, math.MaxInt, s, slices.Repeat([]string{s}, 63)...); e != api.OK && e != api.ErrForm || len(a) > 32 {
		t.Error("a great beginning", e)
	}
}

// roots follows the definition along the same path.
func roots(w, m, n int, whole bool, known string, p []string) (string, string) {
	if m == n {
		if whole {
			return known, known
		}
		return p[0], p[0]
	}
	last := len(p) - 1
	k := merkle.Cut(n)
	if m <= k {
		a, b := roots(w, m, k, whole, known, p[:last])
		return a, merkle.Node(w, b, p[last])
	}
	a, b := roots(w, m-k, n-k, false, known, p[:last])
	return merkle.Node(w, p[last], a), merkle.Node(w, p[last], b)
}

// 40.3, 40.4: with sums of one byte there are clashes.
func TestClash(t *testing.T) {
	found, depths := 0, map[int]int{}
	x := 1
	for range 60000 {
		next := func(n int) int { x = x*6364136223846793005 + 1442695040888963407; return (x >> 33 & 0xffffff) % n }
		n := 2 + next(8)
		m := 1 + next(n)
		l := leaves(1, n)
		for i := range l {
			l[i] = string([]byte{byte(next(256))})
		}
		p, _ := consist.Prove(1, m, l...)
		good := merkle.Root(1, l[:m]...)
		first := string([]byte{byte(next(256))})
		for i := range p {
			if next(2) == 0 {
				p[i] = string([]byte{byte(next(256))})
			}
		}
		holds := consist.Check(1, m, n, first, merkle.Root(1, l...), p...) == api.OK
		a, b := roots(1, m, n, true, first, p)
		if holds != (a == first && b == merkle.Root(1, l...)) {
			t.Fatal("check")
		}
		c, d, ok := consist.Clash(1, m, first, slices.Clone(p), l...)
		if want := holds && first != good; ok != want || !ok && (c != "" || d != "") {
			t.Fatalf("%d of %d: %v", m, n, ok)
		}
		if !ok {
			continue
		}
		found++
		if !clash.Valid(1, c, d) || len(c) != 3 || len(d) != 3 || c[0] != 1 || d[0] != 1 {
			t.Fatalf("%x %x", c, d)
		}
		wantC, wantD, depth := topmost(m, first, p, l)
		if c != wantC || d != wantD {
			t.Fatalf("%x %x, not %x %x", c, d, wantC, wantD)
		}
		depths[depth]++
	}
	if found < 20 || len(depths) < 2 {
		t.Error(found, depths)
	}
	l := leaves(1, 4)
	for _, m := range []int{0, -1, 5, math.MaxInt, math.MinInt} {
		if _, _, ok := consist.Clash(1, m, "x", nil, l...); ok {
			t.Error(m)
		}
	}
	if _, _, ok := consist.Clash(1, 1, "x", nil); ok {
		t.Error("no sums")
	}
}

// topmost finds the first node on the path that is made of different sums.
func topmost(m int, first string, p, l []string) (string, string, int) {
	whole := true
	for depth := 0; ; depth++ {
		n, k := len(l), merkle.Cut(len(l))
		last := len(p) - 1
		var left, right string
		if m <= k {
			_, left = roots(1, m, k, whole, first, p[:last])
			right = p[last]
		} else {
			_, right = roots(1, m-k, n-k, false, first, p[:last])
			left = p[last]
		}
		a, b := merkle.Root(1, l[:k]...), merkle.Root(1, l[k:]...)
		if left != a || right != b {
			return "\x01" + left + right, "\x01" + a + b, depth
		}
		if m <= k {
			l = l[:k]
		} else {
			l, m, whole = l[k:], m-k, false
		}
		p = p[:last]
	}
}
