package split_test

import (
	"bytes"
	stdflate "compress/flate"
	"io"
	"math"
	"slices"
	"strings"
	"testing"

	"sledge/api"
	"sledge/bits"
	"sledge/flate"
	"sledge/inflate"
	"sledge/lz"
	"sledge/split"
)

func letters(n, of, from int) string {
	b := make([]byte, n)
	x := n + of
	for i := range b {
		x = x*6364136223846793005 + 1442695040888963407
		b[i] = byte(from + (x>>40&0xffff)%of)
	}
	return string(b)
}

// skewed has few bytes that are frequent.
func skewed(n, from int) string {
	b := []byte(letters(n, 64, 0))
	for i := range b {
		b[i] = byte(from + min(int(b[i])/40*int(b[i]), 60))
	}
	return string(b)
}

func texts() []string {
	return []string{"", "a", "abc", strings.Repeat("x", 5000), letters(300, 256, 0), letters(3000, 20, 60), letters(900, 4, 0) + letters(900, 200, 0), skewed(700, 0) + skewed(700, 150), letters(400, 250, 0) + strings.Repeat("ab", 900) + skewed(500, 90), skewed(130, 10) + letters(64, 256, 0) + skewed(2000, 10), letters(20000, 90, 9) + skewed(20000, 0)}
}

// 47.1
func TestCuts(t *testing.T) {
	for n, want := range map[int][]int{0: {0}, -1: {0}, math.MinInt: {0}, 1: {1}, 63: {63}, 64: {64}, 65: {64, 65}, 128: {64, 128}, 200: {64, 128, 192, 200}, 768: {64, 128, 192, 256, 320, 384, 448, 512, 576, 640, 704, 768}, 769: {65, 130, 195, 260, 325, 390, 455, 520, 585, 650, 715, 769}, 1200: {100, 200, 300, 400, 500, 600, 700, 800, 900, 1000, 1100, 1200}, 1201: {101, 202, 303, 404, 505, 606, 707, 808, 909, 1010, 1111, 1201}} {
		if got := split.Cuts(n); !slices.Equal(got, want) {
			t.Errorf("Cuts(%d) = %d", n, got)
		}
	}
	for n := range 3000 {
		size := max((n+11)/12, 64)
		var want []int
		for at := size; at < n; at += size {
			want = append(want, at)
		}
		if got := split.Cuts(n); !slices.Equal(got, append(want, n)) || len(got) > 12 {
			t.Errorf("Cuts(%d) = %d", n, got)
		}
	}
	if got := split.Cuts(math.MaxInt); len(got) != 12 || got[11] != math.MaxInt || got[0] != math.MaxInt/12+1 {
		t.Error("the greatest number", got)
	}
}

func size(l []api.Token, kind int) int {
	var w bits.Writer
	flate.Block(&w, l, kind, false)
	return w.Len()
}

// 47.2
func TestPlan(t *testing.T) {
	several := 0
	for i, s := range texts() {
		l := lz.Parse(s)
		all := split.Cuts(len(l))
		cuts, kinds := split.Plan(l)
		if len(cuts) == 0 || len(kinds) != len(cuts) || cuts[len(cuts)-1] != len(l) {
			t.Fatalf("text %d: %d %d", i, cuts, kinds)
		}
		total, before := 0, 0
		for k, cut := range cuts {
			if !slices.Contains(all, cut) || k > 0 && cut <= before || kinds[k] < 1 || kinds[k] > 2 {
				t.Fatalf("text %d: %d %d", i, cuts, kinds)
			}
			total += size(l[before:cut], kinds[k])
			before = cut
		}
		// Every set of cuts.
		cost := map[[2]int]int{}
		ends := append([]int{0}, all...)
		for a := range ends {
			for b := a + 1; b < len(ends); b++ {
				part := l[ends[a]:ends[b]]
				cost[[2]int{a, b}] = min(size(part, 1), size(part, 2))
			}
		}
		best := math.MaxInt
		for set := range 1 << (len(all) - 1) {
			sum, from := 0, 0
			for k := range all {
				if k == len(all)-1 || set>>k&1 == 1 {
					sum += cost[[2]int{from, k + 1}]
					from = k + 1
				}
			}
			best = min(best, sum)
		}
		if total != best {
			t.Errorf("text %d: %d bits, not %d", i, total, best)
		}
		if again, kinds2 := split.Plan(l); !slices.Equal(again, cuts) || !slices.Equal(kinds2, kinds) {
			t.Errorf("text %d: another plan the second time", i)
		}
		if len(cuts) > 1 {
			several++
		}
	}
	if several == 0 {
		t.Error("one block is always best")
	}
	split.Plan([]api.Token{{Lit: -1}, {Len: 5}, {Len: 9999, Dist: math.MinInt}})
}

// 47.3
func TestWith(t *testing.T) {
	s := skewed(700, 0) + letters(200, 256, 0)
	l := lz.Parse(s)
	n := len(l)
	for i, x := range []struct{ cuts, kinds []int }{
		{[]int{n}, []int{1}}, {[]int{n}, []int{2}}, {[]int{100, n}, []int{1, 2}}, {[]int{0, n}, []int{2, 1}}, {[]int{50, 50, 60, n, n}, []int{1, 2, 1, 2, 1}}, {[]int{0, 0, n}, []int{2, 2, 2}},
	} {
		var w bits.Writer
		before := 0
		for k, cut := range x.cuts {
			flate.Block(&w, l[before:cut], x.kinds[k], k == len(x.cuts)-1)
			before = cut
		}
		got, e := split.With(l, x.cuts, x.kinds)
		if got != w.Bytes() || e != api.OK {
			t.Errorf("case %d: %d", i, e)
		}
		out, err := io.ReadAll(stdflate.NewReader(strings.NewReader(got)))
		if err != nil || string(out) != s {
			t.Errorf("case %d: %v", i, err)
		}
	}
	if got, e := split.With(nil, []int{0}, []int{1}); got != "\x03\x00" || e != api.OK {
		t.Errorf("%x %d", got, e)
	}
	bad := []api.Token{{Lit: 'a'}, {Lit: 256}, {Lit: 'b'}}
	for i, x := range []struct {
		l           []api.Token
		cuts, kinds []int
		e           api.Errno
	}{
		{l, nil, nil, api.ErrArg}, {l, []int{n}, nil, api.ErrArg}, {l, []int{n}, []int{1, 2}, api.ErrArg}, {l, []int{n - 1}, []int{1}, api.ErrArg}, {l, []int{n + 1}, []int{1}, api.ErrArg}, {l, []int{n, 5}, []int{1, 1}, api.ErrArg}, {bad, nil, nil, api.ErrArg}, {bad, []int{2}, []int{1}, api.ErrArg},
		{bad, []int{3}, []int{1}, api.ErrForm}, {bad, []int{3}, []int{7}, api.ErrForm}, {bad, []int{2, 1, 3}, []int{1, 1, 1}, api.ErrForm}, {[]api.Token{{Len: 3, Dist: 1}}, []int{1}, []int{1}, api.ErrForm},
		{l, []int{-1, n}, []int{1, 1}, api.ErrArg}, {l, []int{9, 8, n}, []int{1, 1, 1}, api.ErrArg}, {l, []int{n + 1, n}, []int{1, 1}, api.ErrArg}, {l, []int{math.MinInt, n}, []int{1, 1}, api.ErrArg}, {l, []int{n}, []int{0}, api.ErrArg}, {l, []int{n}, []int{3}, api.ErrArg}, {l, []int{5, n}, []int{2, -1}, api.ErrArg}, {nil, nil, nil, api.ErrArg},
	} {
		if s, e := split.With(x.l, x.cuts, x.kinds); s != "" || e != x.e {
			t.Errorf("case %d: %d", i, e)
		}
	}
}

// R4
func TestMemory(t *testing.T) {
	l := append(lz.Parse(skewed(700, 0)), api.Token{Lit: -1})
	keep := slices.Clone(l)
	n := len(l) - 1
	cuts, kinds := split.Plan(l[:n])
	own, own2 := append(slices.Clone(cuts), 7), append(slices.Clone(kinds), 9)
	if _, e := split.With(l[:n], own[:len(cuts)], own2[:len(kinds)]); e != api.OK {
		t.Error(e)
	}
	if !slices.Equal(l, keep) || own[len(cuts)] != 7 || own2[len(kinds)] != 9 {
		t.Error("changed")
	}
	cuts[0], kinds[0] = -1, -1
	if again, kinds2 := split.Plan(l[:n]); again[0] == -1 || kinds2[0] == -1 {
		t.Error("shared")
	}
}

// 47.3, 47.4
func TestPack(t *testing.T) {
	for i, s := range texts() {
		got, own := split.Pack(s), flate.Pack(s)
		l := lz.Parse(s)
		cuts, kinds := split.Plan(l)
		want, _ := split.With(l, cuts, kinds)
		if len(own) <= len(want) {
			want = own
		}
		if got != want || len(got) > len(own) {
			t.Errorf("text %d: %d bytes, not %d", i, len(got), len(want))
		}
		if out, used, e := inflate.Inflate(got, len(s)); out != s || used != len(got) || e != api.OK {
			t.Errorf("text %d: %d", i, e)
		}
		out, err := io.ReadAll(stdflate.NewReader(bytes.NewReader([]byte(got))))
		if err != nil || string(out) != s {
			t.Errorf("text %d: %v", i, err)
		}
	}
}
