package inflate_test

import (
	"bytes"
	stdflate "compress/flate"
	"math"
	"slices"
	"strings"
	"testing"

	"sledge/api"
	"sledge/bits"
	"sledge/flate"
	"sledge/huff"
	"sledge/inflate"
	"sledge/lz"
)

func letters(n, of int) string {
	b := make([]byte, n)
	x := n + of
	for i := range b {
		x = x*6364136223846793005 + 1442695040888963407
		b[i] = byte((x >> 40 & 0xffff) % of)
	}
	return string(b)
}

func texts() []string {
	l := []string{"", "a", "aaaa", strings.Repeat("x", 70000), letters(65536, 256), strings.Repeat(letters(300, 256), 200), letters(131071, 77)}
	for i := range 30 {
		l = append(l, letters(i*37, 1+i*8), strings.Repeat(letters(i*5, 1+i*6), 1+i%5))
	}
	return l
}

func check(t *testing.T, name, s string, most int, out string, used int, e api.Errno) {
	t.Helper()
	if got, n, err := inflate.Inflate(s, most); got != out || n != used || err != e {
		t.Errorf("%s: %.20q (%d bytes) %d %d, not %.20q (%d bytes) %d %d", name, got, len(got), n, err, out, len(out), used, e)
	}
}

// 10.1, 10.2
func TestOwn(t *testing.T) {
	for i, s := range texts() {
		for j, packed := range []string{flate.Store(s), flate.Simple(s), flate.Rich(s), flate.Pack(s)} {
			name := "text " + string(rune('0'+i)) + " way " + string(rune('0'+j))
			check(t, name, packed, len(s), s, len(packed), api.OK)
			check(t, name, packed+"more", math.MaxInt, s, len(packed), api.OK)
			check(t, name, packed[:len(packed)-1], len(s), "", 0, api.ErrForm)
			if s != "" {
				check(t, name, packed, len(s)-1, "", 0, api.ErrLimit)
				check(t, name, packed, -1, "", 0, api.ErrLimit)
			}
		}
	}
	check(t, "empty", flate.Pack(""), -7, "", len(flate.Pack("")), api.OK)
}

// 10.1: a compressed string that ends too early, wherever that is.
func TestCut(t *testing.T) {
	s := letters(60, 20) + strings.Repeat("abc", 30) + letters(40, 250)
	l := lz.Parse(s)
	for _, cuts := range [][]int{{len(l)}, {1, 2, 3, 5, len(l)}, {10, 10, 11, 40, len(l)}} {
		for kind := 1; kind <= 2; kind++ {
			var w bits.Writer
			before := 0
			for i, cut := range cuts {
				flate.Block(&w, l[before:cut], kind, i == len(cuts)-1)
				before = cut
			}
			packed := w.Bytes()
			check(t, "whole", packed, len(s), s, len(packed), api.OK)
			for n := range len(packed) {
				check(t, "cut", packed[:n], len(s), "", 0, api.ErrForm)
			}
		}
	}
	stored := unlast(flate.Store("some")) + flate.Store("thing")
	for n := range len(stored) {
		check(t, "stored, cut", stored[:n], 99, "", 0, api.ErrForm)
	}
}

// 10.1: frequencies for which codes of all lengths are needed.
func TestAllLengths(t *testing.T) {
	var l []api.Token
	s := ""
	for i := range 15 {
		for range 1 << i {
			l = append(l, api.Token{Lit: 7 * i})
		}
		s += strings.Repeat(string([]byte{byte(7 * i)}), 1<<i)
	}
	var w bits.Writer
	flate.Block(&w, l, 2, true)
	check(t, "all lengths", w.Bytes(), len(s), s, len(w.Bytes()), api.OK)
	check(t, "nothing, stored", flate.Store(""), -7, "", 5, api.OK)
	check(t, "nothing, rich", flate.Rich(""), -7, "", len(flate.Rich("")), api.OK)
}

// 10.1: the symbols 30 and 31 are no distances, however far back the string reaches.
func TestNoDistances(t *testing.T) {
	long := unlast(flate.Store(letters(60000, 200)))
	for sym := range 32 {
		ed := max((sym-2)/2, 0)
		_, _, e := inflate.Inflate(long+fixedBlock(257, dist(sym), extra{0, ed}, 256), 70000)
		if want := sym < 30; (e == api.OK) != want || !want && e != api.ErrForm {
			t.Errorf("symbol %d: %d", sym, e)
		}
	}
}

// 10.1
func TestOthers(t *testing.T) {
	for i, s := range texts() {
		for level := -2; level <= 9; level++ {
			var b bytes.Buffer
			w, err := stdflate.NewWriter(&b, level)
			if err != nil {
				t.Fatal(err)
			}
			w.Write([]byte(s[:len(s)/2]))
			if level%2 == 0 {
				w.Flush()
			}
			w.Write([]byte(s[len(s)/2:]))
			w.Close()
			got, used, e := inflate.Inflate(b.String()+"\xff", len(s))
			if got != s || used != b.Len() || e != api.OK {
				t.Errorf("text %d, level %d: %d bytes %d %d", i, level, len(got), used, e)
			}
		}
	}
}

// 10.1
func TestExamples(t *testing.T) {
	check(t, "a", "\x4b\x04\x00", 9, "a", 3, api.OK)
	check(t, "a and more", "\x4b\x04\x00\x4b\x04", 9, "a", 3, api.OK)
	check(t, "a cut", "\x4b\x04", 9, "", 0, api.ErrForm)
	check(t, "a with nothing", "\x4b\x04\x00", 0, "", 0, api.ErrLimit)
	check(t, "nothing", "", 9, "", 0, api.ErrForm)
	check(t, "kind 3", "\x07\x00\x00", 9, "", 0, api.ErrForm)
	check(t, "kind 3, not the last", "\x06\x00\x00", 9, "", 0, api.ErrForm)
	check(t, "stored", "\x01\x01\x00\xfe\xffa", 1, "a", 6, api.OK)
	check(t, "stored, limit", "\x01\x01\x00\xfe\xffa", 0, "", 0, api.ErrLimit)
	check(t, "stored, cut, limit", "\x01\x02\x00\xfd\xffa", 0, "", 0, api.ErrForm)
	check(t, "stored, lengths", "\x01\x01\x00\xfe\xfea", 9, "", 0, api.ErrForm)
	check(t, "stored, lengths cut", "\x01\x01\x00\xfe", 9, "", 0, api.ErrForm)
	check(t, "stored, nothing", "\x01\x00\x00\xff\xff", 0, "", 5, api.OK)
	check(t, "stored, any padding", "\xf9\x01\x00\xfe\xffa", 1, "a", 6, api.OK)
	check(t, "stored, no last block", "\x00\x01\x00\xfe\xffa", 9, "", 0, api.ErrForm)
	check(t, "stored, then fixed", "\x00\x01\x00\xfe\xffz\x4b\x04\x00", 9, "za", 9, api.OK)
}

// fixedBlock writes symbols of the fixed codes: a positive one for bytes and lengths, -1 - one for distances; extra bits by extra.
func fixedBlock(parts ...any) string {
	var w bits.Writer
	a, b := flate.Fixed()
	lits, _ := huff.Codes(a)
	dists, _ := huff.Codes(b)
	w.Put(3, 3)
	for _, p := range parts {
		switch x := p.(type) {
		case int:
			w.Code(lits[x], a[x])
		case dist:
			w.Code(dists[x], b[x])
		case extra:
			w.Put(x.v, x.n)
		}
	}
	return w.Bytes()
}

type dist int
type extra struct{ v, n int }

// 10.1
func TestFixedFaults(t *testing.T) {
	const a, b = int('a'), int('b')
	all := func(s string) int { return len(s) }
	s := fixedBlock(a, 257, dist(0), 256)
	check(t, "match", s, 4, "aaaa", all(s), api.OK)
	check(t, "match, limit", s, 3, "", 0, api.ErrLimit)
	check(t, "too far", fixedBlock(a, 257, dist(1), 256), 9, "", 0, api.ErrForm)
	check(t, "too far, ahead of the limit", fixedBlock(a, 257, dist(1), 256), 1, "", 0, api.ErrForm)
	check(t, "limit ahead of too far", fixedBlock(a, b, 257, dist(9), 256), 1, "", 0, api.ErrLimit)
	check(t, "too far at the beginning", fixedBlock(257, dist(0), 256), 9, "", 0, api.ErrForm)
	check(t, "distance 30", fixedBlock(a, 257, dist(30), 256), 9, "", 0, api.ErrForm)
	check(t, "distance 31", fixedBlock(a, 257, dist(31), 256), 9, "", 0, api.ErrForm)
	check(t, "length 286", fixedBlock(a, 286, dist(0), 256), 9, "", 0, api.ErrForm)
	check(t, "length 287", fixedBlock(a, 287, dist(0), 256), 9, "", 0, api.ErrForm)
	for sym := 257; sym <= 285; sym++ {
		for dsym := 0; dsym < 30; dsym++ {
			n, en := 3, max((sym-261)/4, 0)
			for x := 257; x < sym; x++ {
				n += 1 << max((x-261)/4, 0)
			}
			if sym == 285 {
				n, en = 258, 0
			}
			d, ed := 1, max((dsym-2)/2, 0)
			for x := range dsym {
				d += 1 << max((x-2)/2, 0)
			}
			vn, vd := 1<<en-1-en/3, 1<<ed-1-ed/2
			text := letters(d+vd, 250)
			var w bits.Writer
			w.Text(flate.Store(text))
			stored := w.Bytes()
			stored = unlast(stored)
			packed := stored + fixedBlock(sym, extra{vn, en}, dist(dsym), extra{vd, ed}, 256)
			want := []byte(text)
			for range n + vn {
				want = append(want, want[len(want)-d-vd])
			}
			check(t, "match", packed, len(want), string(want), len(packed), api.OK)
			check(t, "match, limit", packed, len(want)-1, "", 0, api.ErrLimit)
			if d+vd > 1 {
				short := unlast(flate.Store(text[1:])) + fixedBlock(sym, extra{vn, en}, dist(dsym), extra{vd, ed}, 256)
				check(t, "too far", short, len(want), "", 0, api.ErrForm)
			}
		}
	}
}

// unlast clears the mark of a last stored block.
func unlast(s string) string {
	b := []byte(s)
	b[0] &^= 1
	return string(b)
}

// richBlock writes the beginning of a block of kind 2: the lengths of the code for lengths, and symbols of it.
func richBlock(lits, dists, count int, own map[int]int, parts ...any) string {
	order := []int{16, 17, 18, 0, 8, 7, 9, 6, 10, 5, 11, 4, 12, 3, 13, 2, 14, 1, 15}
	var w bits.Writer
	w.Put(5, 3)
	w.Put(lits-257, 5)
	w.Put(dists-1, 5)
	w.Put(count-4, 4)
	lengths := make([]int, 19)
	for i := range count {
		w.Put(own[order[i]], 3)
		lengths[order[i]] = own[order[i]]
	}
	codes, e := huff.Codes(lengths)
	if e != api.OK {
		return w.Bytes() + "\x00\x00\x00\x00"
	}
	for _, p := range parts {
		switch x := p.(type) {
		case int:
			w.Code(codes[x], lengths[x])
		case extra:
			w.Put(x.v, x.n)
		}
	}
	w.Put(0, 60)
	return w.Bytes()
}

// 10.1
func TestRichFaults(t *testing.T) {
	// Lengths: a byte 0 with 1 bit, the end with 1, no distances.
	own := map[int]int{0: 2, 1: 2, 16: 3, 17: 3, 18: 2}
	good := []any{1, 18, extra{127, 7}, 18, extra{106, 7}, 1, 0}
	for _, x := range []struct {
		name               string
		lits, dists, count int
		own                map[int]int
		parts              []any
		out                string
		ok                 bool
	}{
		{"good", 257, 1, 18, own, append(slices.Clone(good), extra{2, 2}), "\x00", true},
		{"no last bits", 257, 1, 18, own, good[:4], "", false},
		{"287 lengths", 287, 1, 18, own, good, "", false},
		{"288 lengths", 288, 1, 18, own, good, "", false},
		{"31 distances", 257, 31, 18, own, good, "", false},
		{"32 distances", 257, 32, 18, own, good, "", false},
		{"too great a code for lengths", 257, 1, 18, map[int]int{0: 1, 1: 1, 18: 1}, nil, "", false},
		{"an incomplete code for lengths", 257, 1, 18, map[int]int{0: 2, 1: 2, 18: 2}, good, "", false},
		{"16 first", 257, 1, 18, own, append([]any{16, extra{0, 2}}, good...), "", false},
		{"16 is too much", 257, 1, 18, own, append(slices.Clone(good[:6]), 16, extra{0, 2}), "", false},
		{"17 is too much", 257, 1, 18, own, append(slices.Clone(good[:6]), 17, extra{0, 3}), "", false},
		{"18 is too much", 257, 1, 18, own, append(slices.Clone(good[:4]), 18, extra{0, 7}, 1), "", false},
		{"no length of 256", 257, 1, 18, own, []any{1, 1, 18, extra{127, 7}, 18, extra{106, 7}, 0}, "", false},
		{"an incomplete code", 257, 1, 18, map[int]int{0: 2, 1: 2, 2: 2, 18: 2}, []any{1, 18, extra{127, 7}, 18, extra{106, 7}, 2, 0}, "", false},
		{"too great a code", 257, 1, 18, own, []any{1, 1, 18, extra{127, 7}, 18, extra{105, 7}, 1, 0}, "", false},
		{"an incomplete code of distances", 257, 1, 18, map[int]int{0: 2, 1: 2, 2: 2, 18: 2}, []any{1, 18, extra{127, 7}, 18, extra{106, 7}, 1, 2}, "", false},
		{"only the end", 257, 1, 18, map[int]int{0: 2, 1: 2, 2: 2, 18: 2}, []any{18, extra{127, 7}, 18, extra{107, 7}, 1, 0, extra{0, 1}}, "", true},
		{"only the end, no code", 257, 1, 18, map[int]int{0: 2, 1: 2, 2: 2, 18: 2}, []any{18, extra{127, 7}, 18, extra{107, 7}, 1, 0, extra{1, 1}}, "", false},
	} {
		packed := richBlock(x.lits, x.dists, x.count, x.own, x.parts...)
		got, used, e := inflate.Inflate(packed, 99)
		if x.ok && (got != x.out || e != api.OK || used < 1) || !x.ok && (got != "" || e != api.ErrForm || used != 0) {
			t.Errorf("%s: %q %d %d", x.name, got, used, e)
		}
	}
}

// 10.1: a repetition goes on from the lengths of bytes into those of distances.
func TestRepeatAcross(t *testing.T) {
	own := map[int]int{2: 1, 16: 2, 18: 2}
	data := extra{0x4c, 8} // the byte fe, 3 bytes with distance 1, the end
	s := richBlock(258, 4, 18, own, 18, extra{127, 7}, 18, extra{105, 7}, 2, 16, extra{3, 2}, 2, data)
	if got, _, e := inflate.Inflate(s, 4); got != "\xfe\xfe\xfe\xfe" || e != api.OK {
		t.Errorf("%q %d", got, e)
	}
	s = richBlock(258, 4, 18, own, 18, extra{127, 7}, 18, extra{105, 7}, 2, 2, 16, extra{3, 2}, data)
	if got, _, e := inflate.Inflate(s, 4); got != "\xfe\xfe\xfe\xfe" || e != api.OK {
		t.Errorf("%q %d", got, e)
	}
	s = richBlock(258, 4, 18, own, 18, extra{127, 7}, 18, extra{105, 7}, 2, 2, 2, 16, extra{3, 2}, data)
	if got, _, e := inflate.Inflate(s, 4); got != "" || e != api.ErrForm {
		t.Errorf("%q %d", got, e)
	}
}

// 10.1, P1
func TestAnyBytes(t *testing.T) {
	base := flate.Rich(letters(400, 20) + strings.Repeat("abc", 50))
	n := 5
	for i := range 20000 {
		b := []byte(base)
		for range 1 + i%3 {
			n = n*6364136223846793005 + 1442695040888963407
			at := n >> 33 & 0xffff
			b[at%len(b)] ^= 1 << (n >> 20 & 7)
		}
		got, used, e := inflate.Inflate(string(b), 2000)
		if e != api.OK && (got != "" || used != 0) || used > len(b) || len(got) > 2000 {
			t.Fatalf("%x: %d bytes, %d, %d", b, len(got), used, e)
		}
		want, err := unpack(b)
		if e == api.OK && (err != nil || want != got) {
			t.Fatalf("%x: %v", b, err)
		}
	}
}

func unpack(b []byte) (string, error) {
	var out bytes.Buffer
	_, err := out.ReadFrom(stdflate.NewReader(bytes.NewReader(b)))
	return out.String(), err
}
