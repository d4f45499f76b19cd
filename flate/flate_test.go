package flate_test

import (
	"bytes"
	stdflate "compress/flate"
	"io"
	"math"
	"slices"
	"strings"
	"testing"

	"sledge/api"
	"sledge/bits"
	"sledge/flate"
	"sledge/huff"
	"sledge/lz"
)

// unpack is what any decompressor makes of s, and how many bytes it uses.
func unpack(t *testing.T, s string) (string, int) {
	t.Helper()
	b := bytes.NewReader([]byte(s))
	out, err := io.ReadAll(stdflate.NewReader(b))
	if err != nil {
		t.Errorf("%.40x: %v", s, err)
	}
	return string(out), len(s) - b.Len()
}

func letters(n, of int) string {
	b := make([]byte, n)
	x := n + of
	for i := range b {
		x = x*6364136223846793005 + 1442695040888963407
		b[i] = byte((x>>40&0xffff)%of + 97*(of&1))
	}
	return string(b)
}

func texts() []string {
	l := []string{"", "a", "aaaa", "abc", strings.Repeat("x", 70000), letters(65535, 256), letters(65536, 256), letters(131070, 200), letters(131071, 200)}
	for i := range 40 {
		l = append(l, letters(i*37, 1+i*6), strings.Repeat(letters(i*5, 1+i*6), 1+i%5))
	}
	return l
}

// 9.1
func TestLength(t *testing.T) {
	first, sym := 3, 257
	for n := 3; n <= 258; n++ {
		extra := max((sym-261)/4, 0)
		if sym == 284 && n == 258 {
			first, sym, extra = 258, 285, 0
		} else if n == first+1<<extra {
			first, sym = n, sym+1
			extra = max((sym-261)/4, 0)
		}
		if s, e, v := flate.Length(n); s != sym || e != extra || v != n-first {
			t.Errorf("Length(%d) = %d %d %d, not %d %d %d", n, s, e, v, sym, extra, n-first)
		}
	}
	for _, x := range [][4]int{{3, 257, 0, 0}, {10, 264, 0, 0}, {11, 265, 1, 0}, {12, 265, 1, 1}, {13, 266, 1, 0}, {17, 268, 1, 0}, {19, 269, 2, 0}, {227, 284, 5, 0}, {257, 284, 5, 30}, {258, 285, 0, 0}} {
		if s, e, v := flate.Length(x[0]); [3]int{s, e, v} != [3]int(x[1:]) {
			t.Errorf("Length(%d) = %d %d %d", x[0], s, e, v)
		}
	}
	for _, n := range []int{math.MinInt, -1, 0, 2, 259, math.MaxInt} {
		flate.Length(n)
	}
}

// 9.1
func TestDist(t *testing.T) {
	first, sym := 1, 0
	for n := 1; n <= 32768; n++ {
		extra := max((sym-2)/2, 0)
		if n == first+1<<extra {
			first, sym = n, sym+1
			extra = max((sym-2)/2, 0)
		}
		if s, e, v := flate.Dist(n); s != sym || e != extra || v != n-first {
			t.Fatalf("Dist(%d) = %d %d %d, not %d %d %d", n, s, e, v, sym, extra, n-first)
		}
	}
	for _, x := range [][4]int{{1, 0, 0, 0}, {4, 3, 0, 0}, {5, 4, 1, 0}, {6, 4, 1, 1}, {7, 5, 1, 0}, {9, 6, 2, 0}, {24577, 29, 13, 0}, {32768, 29, 13, 8191}} {
		if s, e, v := flate.Dist(x[0]); [3]int{s, e, v} != [3]int(x[1:]) {
			t.Errorf("Dist(%d) = %d %d %d", x[0], s, e, v)
		}
	}
	for _, n := range []int{math.MinInt, -1, 0, 32769, math.MaxInt} {
		flate.Dist(n)
	}
}

// 9.1
func TestFixed(t *testing.T) {
	a, b := flate.Fixed()
	want := slices.Concat(slices.Repeat([]int{8}, 144), slices.Repeat([]int{9}, 112), slices.Repeat([]int{7}, 24), slices.Repeat([]int{8}, 8))
	if !slices.Equal(a, want) || !slices.Equal(b, slices.Repeat([]int{5}, 32)) {
		t.Error(a, b)
	}
	a[0], b[0] = 1, 1
	if a, b = flate.Fixed(); a[0] != 8 || b[0] != 5 {
		t.Error("what was returned is shared")
	}
}

// 9.2
func TestStore(t *testing.T) {
	for _, x := range [][2]string{{"", "\x01\x00\x00\xff\xff"}, {"a", "\x01\x01\x00\xfe\xffa"}} {
		if s := flate.Store(x[0]); s != x[1] {
			t.Errorf("Store(%q) = %x", x[0], s)
		}
	}
	for n, blocks := range map[int]int{65534: 1, 65535: 1, 65536: 2, 131070: 2, 131071: 3} {
		s := flate.Store(strings.Repeat("y", n))
		if len(s) != n+5*blocks || s[0] != byte(1/blocks) {
			t.Errorf("%d bytes: %d", n, len(s))
		}
	}
	if s := flate.Store(strings.Repeat("y", 65536)); s[:5] != "\x00\xff\xff\x00\x00" || s[65540:] != "\x01\x01\x00\xfe\xffy" {
		t.Errorf("%x .. %x", s[:5], s[65540:])
	}
}

// 9.2
func TestSimple(t *testing.T) {
	if s := flate.Simple("a"); s != "\x4b\x04\x00" {
		t.Errorf("%x", s)
	}
	if s := flate.Simple(""); s != "\x03\x00" {
		t.Errorf("%x", s)
	}
	for i, s := range texts() {
		var w bits.Writer
		w.Put(3, 3)
		a, b := flate.Fixed()
		lits, _ := huff.Codes(a)
		dists, _ := huff.Codes(b)
		for _, x := range lz.Parse(s) {
			if x.Len == 0 {
				w.Code(lits[x.Lit], a[x.Lit])
				continue
			}
			sym, extra, v := flate.Length(x.Len)
			w.Code(lits[sym], a[sym])
			w.Put(v, extra)
			sym, extra, v = flate.Dist(x.Dist)
			w.Code(dists[sym], 5)
			w.Put(v, extra)
		}
		w.Code(0, 7)
		if flate.Simple(s) != w.Bytes() {
			t.Errorf("text %d", i)
		}
	}
}

// 9.2, 9.3
func TestUnpacked(t *testing.T) {
	for i, s := range texts() {
		store, simple, rich, pack := flate.Store(s), flate.Simple(s), flate.Rich(s), flate.Pack(s)
		for j, packed := range []string{store, simple, rich, pack} {
			if got, used := unpack(t, packed); got != s || used != len(packed) {
				t.Errorf("text %d, way %d: %d bytes, %d of %d used", i, j, len(got), used, len(packed))
			}
		}
		want := store
		for _, other := range []string{simple, rich} {
			if len(other) < len(want) {
				want = other
			}
		}
		if pack != want {
			t.Errorf("text %d: %d bytes, not %d", i, len(pack), len(want))
		}
		if flate.Rich(s) != rich {
			t.Errorf("text %d: otherwise the second time", i)
		}
	}
	if n := len(flate.Pack(strings.Repeat("x", 70000))); n > 150 {
		t.Errorf("70000 bytes x: %d", n)
	}
}

// codes reads the lengths of both codes of a block of kind 2.
func codes(t *testing.T, s string) ([]int, []int) {
	t.Helper()
	r := bits.New(s)
	take := func(n int) int {
		v, ok := r.Take(n)
		if !ok {
			t.Fatal("no bits left")
		}
		return v
	}
	if take(3) != 5 {
		t.Fatal("not a last block of kind 2")
	}
	lits, dists, n := 257+take(5), 1+take(5), 4+take(4)
	own := make([]int, 19)
	for _, i := range []int{16, 17, 18, 0, 8, 7, 9, 6, 10, 5, 11, 4, 12, 3, 13, 2, 14, 1, 15}[:n] {
		own[i] = take(3)
	}
	table, e := huff.New(own)
	var all []int
	for len(all) < lits+dists && e == api.OK {
		var sym int
		sym, e = table.Decode(r)
		switch sym {
		case 16:
			all = append(all, slices.Repeat(all[len(all)-1:], 3+take(2))...)
		case 17:
			all = append(all, make([]int, 3+take(3))...)
		case 18:
			all = append(all, make([]int, 11+take(7))...)
		default:
			all = append(all, sym)
		}
	}
	if e != api.OK || len(all) != lits+dists || lits > 286 || dists > 30 {
		t.Fatal("lengths", e, lits, dists)
	}
	return slices.Clone(all[:lits]), slices.Clone(all[lits:])
}

// 9.3
func TestRichCodes(t *testing.T) {
	for i, s := range texts() {
		a, b := make([]int, 288), make([]int, 32)
		a[256] = 1
		for _, x := range lz.Parse(s) {
			if x.Len == 0 {
				a[x.Lit]++
				continue
			}
			sym, _, _ := flate.Length(x.Len)
			a[sym]++
			sym, _, _ = flate.Dist(x.Dist)
			b[sym]++
		}
		for len(a) > 286 {
			a = a[:len(a)-1]
		}
		a, b = want(a), want(b[:30])
		lits, dists := codes(t, flate.Rich(s))
		lits = append(lits, make([]int, 286-len(lits))...)
		dists = append(dists, make([]int, 30-len(dists))...)
		if !slices.Equal(lits, a) || !slices.Equal(dists, b) {
			t.Errorf("text %d: other lengths", i)
		}
	}
}

func want(freq []int) []int {
	l, _ := huff.Lengths(freq, 15)
	return l
}

// 9.4: frequencies for which codes of all lengths are needed.
func TestAllLengths(t *testing.T) {
	var l []api.Token
	s := ""
	for i := range 15 {
		for range 1 << i {
			l = append(l, api.Token{Lit: 7 * i})
		}
		s += strings.Repeat(string([]byte{byte(7 * i)}), 1<<i)
	}
	var w bits.Writer
	flate.Block(&w, l, 2, true)
	lits, _ := codes(t, w.Bytes())
	for n := 1; n <= 15; n++ {
		if !slices.Contains(lits, n) {
			t.Errorf("no code of %d bits", n)
		}
	}
	if got, used := unpack(t, w.Bytes()); got != s || used != len(w.Bytes()) {
		t.Error("unpacked otherwise")
	}
}

// 9.4
func TestBlock(t *testing.T) {
	s := strings.Repeat(letters(300, 9), 3) + letters(200, 30)
	l := lz.Parse(s)
	for kind, want := range map[int]string{1: flate.Simple(s), 2: flate.Rich(s), 0: flate.Rich(s), 3: flate.Rich(s), -1: flate.Rich(s), math.MaxInt: flate.Rich(s)} {
		var w bits.Writer
		flate.Block(&w, l, kind, true)
		if w.Bytes() != want {
			t.Errorf("kind %d", kind)
		}
	}
	for _, kinds := range [][2]int{{1, 1}, {1, 2}, {2, 1}, {2, 2}} {
		for _, cut := range []int{0, 1, 7, len(l) / 2, len(l)} {
			var w bits.Writer
			flate.Block(&w, l[:cut], kinds[0], false)
			flate.Block(&w, l[cut:], kinds[1], true)
			if got, used := unpack(t, w.Bytes()); got != s || used != len(w.Bytes()) {
				t.Errorf("kinds %d, cut at %d", kinds, cut)
			}
		}
	}
	var w bits.Writer
	flate.Block(&w, nil, 1, false)
	if w.Len() != 10 || w.Bytes() != "\x02\x00" {
		t.Errorf("%d bits %x", w.Len(), w.Bytes())
	}
	flate.Block(nil, l, 2, true)
	for _, x := range []api.Token{{Lit: -1}, {Lit: 256}, {Lit: math.MaxInt}, {Len: 2, Dist: 1}, {Len: 259, Dist: 1}, {Len: -1, Dist: 1}, {Len: 3}, {Len: 3, Dist: 32769}, {Len: 3, Dist: -1}, {Lit: 1, Dist: 9}} {
		flate.Block(&w, []api.Token{{Lit: 'a'}, x}, 1, true)
		flate.Block(&w, []api.Token{{Lit: 'a'}, x}, 2, true)
	}
}
