package multi_test

import (
	"math"
	"slices"
	"testing"

	"sledge/api"
	"sledge/archive"
	"sledge/consist"
	"sledge/grow"
	"sledge/merkle"
	"sledge/multi"
)

func leaves(w, n int) []string {
	var l []string
	for i := range n {
		l = append(l, merkle.Leaf(w, "leaf "+string(rune('0'+i))))
	}
	return l
}

// proof follows the definition, with the leaves from some index on.
func proof(w int, want map[int]bool, from int, l []string) []string {
	some := false
	for i := range l {
		some = some || want[from+i]
	}
	if !some {
		return []string{merkle.Root(w, l...)}
	}
	if len(l) == 1 {
		return nil
	}
	k := merkle.Cut(len(l))
	return append(proof(w, want, from, l[:k]), proof(w, want, from+k, l[k:])...)
}

// 41.1, 41.2, 41.3
func TestAllSets(t *testing.T) {
	for n := 1; n <= 10; n++ {
		w := []int{32, 1, 99, 7}[n%4]
		l := leaves(w, n)
		keep := slices.Clone(l)
		top := merkle.Root(w, l...)
		for set := 1; set < 1<<n; set++ {
			var want []int
			var sums []string
			in := map[int]bool{}
			together := 0
			for i := range n {
				if set>>i&1 == 1 {
					want = append(want, i)
					sums = append(sums, l[i])
					in[i] = true
					together += len(merkle.Way(i, n))
				}
			}
			p, e := multi.Prove(w, want, l...)
			if e != api.OK || !slices.Equal(p, proof(w, in, 0, l)) || multi.Count(n, want) != len(p) || len(p) > together {
				t.Fatalf("%d of %d: %d sums, %d, count %d", want, n, len(p), e, multi.Count(n, want))
			}
			if len(want) == 1 && len(p) != len(merkle.Way(want[0], n)) || len(want) == n && len(p) > 0 {
				t.Errorf("%d of %d: %d sums", want, n, len(p))
			}
			if got, e := multi.Root(w, n, want, sums, p...); got != top || e != api.OK {
				t.Errorf("%d of %d: %d", want, n, e)
			}
			if e := multi.Check(w, top, n, want, sums, p...); e != api.OK {
				t.Errorf("%d of %d: %d", want, n, e)
			}
			if len(p) > 0 {
				if e := multi.Check(w, top, n, want, sums, p[1:]...); e != api.ErrForm {
					t.Errorf("%d of %d without the first sum: %d", want, n, e)
				}
			}
		}
		if !slices.Equal(l, keep) {
			t.Fatal("arguments are changed")
		}
	}
	l := leaves(32, 4)
	if p, e := multi.Prove(32, []int{1, 2}, l...); !slices.Equal(p, []string{l[0], l[3]}) || e != api.OK {
		t.Error("the example")
	}
}

// 41.1
func TestInvalid(t *testing.T) {
	l := leaves(32, 5)
	s := l[0]
	for _, want := range [][]int{nil, {}, {-1}, {5}, {0, 0}, {1, 0}, {0, 2, 1}, {0, 5}, {-1, 0}, {math.MinInt}, {math.MaxInt}, {0, 1, 2, 3, 4, 4}} {
		if p, e := multi.Prove(32, want, l...); len(p) > 0 || e != api.ErrArg {
			t.Errorf("Prove(%d): %d", want, e)
		}
		if got, e := multi.Root(32, 5, want, slices.Repeat([]string{s}, len(want)), s); got != "" || e != api.ErrArg {
			t.Errorf("Root(%d): %d", want, e)
		}
		if e := multi.Check(32, s, 5, want, slices.Repeat([]string{s}, len(want)), s); e != api.ErrArg {
			t.Errorf("Check(%d): %d", want, e)
		}
		multi.Count(5, want)
	}
	for _, x := range []struct {
		n    int
		want []int
		c    int
	}{
		{0, nil, 0}, {0, []int{0}, 0}, {-1, nil, 0}, {math.MinInt, []int{3}, 0}, {1, nil, 1}, {5, nil, 1}, {math.MaxInt, nil, 1}, {1, []int{0}, 0}, {2, []int{0}, 1}, {2, []int{0, 1}, 0}, {7, []int{6}, 2}, {7, []int{0}, 3}, {7, []int{0, 6}, 3}, {1 << 62, []int{0}, 62}, {1 << 62, []int{0, 1<<62 - 1}, 122}, {math.MaxInt, []int{math.MaxInt - 1}, 62},
	} {
		if c := multi.Count(x.n, x.want); c != x.c {
			t.Errorf("Count(%d, %d) = %d", x.n, x.want, c)
		}
	}
	if p, e := multi.Prove(32, []int{0}); len(p) > 0 || e != api.ErrArg {
		t.Error("no sums")
	}
}

// R4
func TestMemory(t *testing.T) {
	l := append(leaves(32, 6), "behind")
	keep := slices.Clone(l)
	want := []int{1, 4, 99}
	p, _ := multi.Prove(32, want[:2], l[:6]...)
	sums, q := []string{l[1], l[4], "behind"}, append(slices.Clone(p), "behind")
	if e := multi.Check(32, merkle.Root(32, l[:6]...), 6, want[:2], sums[:2], q[:len(p)]...); e != api.OK {
		t.Error(e)
	}
	multi.Count(6, want[:2])
	p[0] = "changed"
	if !slices.Equal(l, keep) || !slices.Equal(want, []int{1, 4, 99}) || sums[2] != "behind" || q[len(q)-1] != "behind" {
		t.Error("changed")
	}
}

// 41.2
func TestErrors(t *testing.T) {
	l := leaves(8, 6)
	want, sums := []int{1, 4}, []string{l[1], l[4]}
	p, _ := multi.Prove(8, want, l...)
	r := merkle.Root(8, l...)
	changed := func(l []string, i int, s string) []string { q := slices.Clone(l); q[i] = s; return q }
	for i, x := range []struct {
		w      int
		root   string
		n      int
		want   []int
		leaves []string
		p      []string
		e      api.Errno
	}{
		{8, r, 6, want, sums, p, api.OK}, {8, r, 6, want, sums[1:], p, api.ErrArg}, {8, r, 6, want, l[:3], p, api.ErrArg}, {8, r, 4, want, sums, p, api.ErrArg}, {8, r, 0, want, sums, p, api.ErrArg}, {8, r, -6, want, sums, p, api.ErrArg}, {8, r, 6, []int{4, 1}, sums, p, api.ErrArg}, {8, r, 6, want, nil, nil, api.ErrArg},
		{8, r, 6, want, sums, p[:2], api.ErrForm}, {8, r, 6, want, sums, append(slices.Clone(p), p[0]), api.ErrForm}, {8, r, 6, want, sums, nil, api.ErrForm}, {8, r, 6, want, sums, changed(p, 1, "short"), api.ErrForm}, {8, r, 6, want, sums, changed(p, 2, "too long."), api.ErrForm}, {8, r, 6, want, changed(sums, 0, ""), p, api.ErrForm}, {8, r, 6, want, changed(sums, 1, "too long."), p, api.ErrForm}, {7, r, 6, want, sums, p, api.ErrForm},
		{8, r, 6, want, changed(sums, 1, "12345678"), p, api.ErrRoot}, {8, r, 6, want, sums, changed(p, 0, "12345678"), api.ErrRoot}, {8, r, 6, want, sums, changed(p, 2, "12345678"), api.ErrRoot}, {8, r, 6, want, []string{l[4], l[1]}, p, api.ErrRoot}, {8, r, 6, []int{0, 4}, sums, p, api.ErrRoot}, {8, r[1:], 6, want, sums, p, api.ErrRoot}, {8, "", 6, want, sums, p, api.ErrRoot},
	} {
		if e := multi.Check(x.w, x.root, x.n, x.want, x.leaves, x.p...); e != x.e {
			t.Errorf("Check, case %d: %d, not %d", i, e, x.e)
		}
		s, e := multi.Root(x.w, x.n, x.want, x.leaves, x.p...)
		if x.e == api.ErrRoot && (e != api.OK || len(s) != 8) || x.e != api.ErrRoot && e != x.e || e != api.OK && s != "" {
			t.Errorf("Root, case %d: %d", i, e)
		}
	}
	if !slices.Equal(sums, []string{l[1], l[4]}) || !slices.Equal(want, []int{1, 4}) {
		t.Error("arguments are changed")
	}
}

// T5
func TestBlocks(t *testing.T) {
	b := make([]byte, 2500)
	x := 1
	for i := range b {
		x = x*6364136223846793005 + 1442695040888963407
		b[i] = byte(x >> 40)
	}
	a, e := archive.Pack("secret", "0123456789abcdef", 1, api.File{Path: "f", Data: string(b)})
	if e != api.OK {
		t.Fatal(e)
	}
	n := a.Head.N
	tree := grow.New(32)
	var sums []string
	for _, b := range a.Blocks {
		sums = append(sums, merkle.Leaf(32, b))
		if e := tree.Add(merkle.Leaf(32, b)); e != api.OK {
			t.Fatal(e)
		}
		p, e := consist.Prove(32, len(sums), all(a)...)
		if e != api.OK || consist.Check(32, len(sums), n, tree.Root(), a.Head.Root, p...) != api.OK {
			t.Errorf("the first %d blocks: %d", len(sums), e)
		}
	}
	if tree.Root() != a.Head.Root || n < 10 {
		t.Error("the root")
	}
	for set := 1; set < 1<<n; set += 37 {
		var want []int
		var own []string
		for i := range n {
			if set>>i&1 == 1 {
				want = append(want, i)
				own = append(own, sums[i])
			}
		}
		p, e := multi.Prove(32, want, sums...)
		if e != api.OK || multi.Check(32, a.Head.Root, n, want, own, p...) != api.OK {
			t.Errorf("blocks %d: %d", want, e)
		}
	}
}

func all(a api.Archive) []string {
	var out []string
	for _, b := range a.Blocks {
		out = append(out, merkle.Leaf(32, b))
	}
	return out
}
