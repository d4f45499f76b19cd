package grow_test

import (
	"math"
	"slices"
	"strings"
	"testing"

	"sledge/api"
	"sledge/grow"
	"sledge/merkle"
)

func leaves(w, n int) []string {
	var l []string
	for i := range n {
		l = append(l, merkle.Leaf(w, "leaf "+string(rune(i))))
	}
	return l
}

// peaks are the roots of the complete subtrees.
func peaks(w int, l []string) []string {
	var out []string
	for size := 1 << 20; size > 0; size /= 2 {
		if len(l)&size != 0 {
			out = append(out, merkle.Root(w, l[:size]...))
			l = l[size:]
			if len(l) == 0 {
				break
			}
		}
	}
	return out
}

// 16.1, 16.2
func TestGrow(t *testing.T) {
	for _, w := range []int{-1, 1, 20, 32, 50} {
		tree := grow.New(w)
		l := leaves(w, 130)
		for n := range len(l) + 1 {
			want := peaks(w, l[:n])
			if tree.Len() != n || tree.Root() != merkle.Root(w, l[:n]...) || !slices.Equal(tree.Peaks(), want) {
				t.Fatalf("width %d, %d leaves: %d, %x", w, n, tree.Len(), tree.Root())
			}
			if n < len(l) {
				if e := tree.Add(l[n]); e != api.OK {
					t.Fatal(e)
				}
			}
		}
	}
	l := leaves(32, 3)
	tree := grow.New(32)
	for _, s := range l {
		tree.Add(s)
	}
	ab := merkle.Node(32, l[0], l[1])
	if !slices.Equal(tree.Peaks(), []string{ab, l[2]}) || tree.Root() != merkle.Node(32, ab, l[2]) {
		t.Error("three leaves")
	}
}

// 16.2
func TestAddErrors(t *testing.T) {
	tree := grow.New(32)
	tree.Add(merkle.Leaf(32, "a"))
	root := tree.Root()
	for _, s := range []string{"", "x", strings.Repeat("x", 31), strings.Repeat("x", 33)} {
		if e := tree.Add(s); e != api.ErrForm || tree.Len() != 1 || tree.Root() != root {
			t.Errorf("%d bytes: %d", len(s), e)
		}
	}
	narrow := grow.New(0)
	if narrow.Add("ab") != api.ErrForm || narrow.Add("a") != api.OK || narrow.Root() != "a" {
		t.Error("width 1")
	}
}

// 16.1
func TestFrom(t *testing.T) {
	s := strings.Repeat("s", 32)
	for i, x := range []struct {
		w, n  int
		peaks []string
		e     api.Errno
	}{
		{32, 0, nil, api.OK}, {32, 1, []string{s}, api.OK}, {32, 3, []string{s, s}, api.OK}, {32, 1 << 40, []string{s}, api.OK}, {99, 4, []string{s}, api.OK}, {1, 4, []string{"s"}, api.OK}, {-5, 4, []string{"s"}, api.OK},
		{32, -1, nil, api.ErrArg}, {32, -1, slices.Repeat([]string{s}, 64), api.ErrArg}, {32, math.MinInt, []string{s}, api.ErrArg}, {32, 0, []string{s}, api.ErrArg}, {32, 1, nil, api.ErrArg}, {32, 3, []string{s}, api.ErrArg}, {32, 3, []string{s, s, s}, api.ErrArg}, {32, 3, []string{"x"}, api.ErrArg},
		{32, 1, []string{"x"}, api.ErrForm}, {32, 3, []string{s, ""}, api.ErrForm}, {32, 3, []string{s + "s", s}, api.ErrForm}, {31, 1, []string{s}, api.ErrForm}, {32, math.MaxInt, slices.Repeat([]string{s}, 63), api.OK},
	} {
		tree, e := grow.From(x.w, x.n, x.peaks...)
		if e != x.e || (tree != nil) != (e == api.OK) {
			t.Errorf("case %d: %d", i, e)
		}
		if e == api.OK && (tree.Len() != x.n || !slices.Equal(tree.Peaks(), x.peaks)) {
			t.Errorf("case %d: another tree", i)
		}
	}
}

// 16.3, R4
func TestContinued(t *testing.T) {
	for _, w := range []int{1, 32} {
		l := leaves(w, 70)
		tree := grow.New(w)
		for n := range l {
			own := tree.Peaks()
			other, e := grow.From(w, tree.Len(), own...)
			if e != api.OK {
				t.Fatal(n, e)
			}
			for i := range own {
				own[i] = "changed"
			}
			for _, s := range l[n:] {
				other.Add(s)
			}
			if other.Root() != merkle.Root(w, l...) || other.Len() != len(l) || !slices.Equal(other.Peaks(), peaks(w, l)) {
				t.Errorf("width %d, from %d leaves on", w, n)
			}
			if tree.Len() != n || tree.Root() != merkle.Root(w, l[:n]...) {
				t.Fatalf("width %d, %d leaves: changed by another tree", w, n)
			}
			tree.Add(l[n])
			got := tree.Peaks()
			got[0] = "changed"
			if tree.Root() != merkle.Root(w, l[:n+1]...) {
				t.Fatal("shared peaks")
			}
		}
	}
}

// 16.2, P1
func TestNil(t *testing.T) {
	var tree *grow.Tree
	if tree.Add(merkle.Leaf(32, "a")) != api.ErrNone || tree.Add("") != api.ErrNone || tree.Len() != 0 || len(tree.Peaks()) > 0 || tree.Root() != "" {
		t.Error("nil")
	}
}
