package stream_test

import (
	"bytes"
	stdflate "compress/flate"
	"math"
	"slices"
	"strings"
	"testing"

	"sledge/api"
	"sledge/archive"
	"sledge/bits"
	"sledge/block"
	"sledge/filemap"
	"sledge/flate"
	"sledge/huff"
	"sledge/inflate"
	"sledge/kdf"
	"sledge/lz"
	"sledge/stream"
)

func letters(n, of int) string {
	b := make([]byte, n)
	x := n + of
	for i := range b {
		x = x*6364136223846793005 + 1442695040888963407
		b[i] = byte((x >> 40 & 0xffff) % of)
	}
	return string(b)
}

// fed feeds s in parts of so many bytes, up to the first error.
func fed(s string, part, most int) (string, *stream.Reader, api.Errno) {
	r := stream.New(most)
	out := ""
	for len(s) > 0 {
		n := min(part, len(s))
		got, e := r.Feed(s[:n])
		out += got
		if e != api.OK {
			return out, r, e
		}
		s = s[n:]
	}
	return out, r, api.OK
}

// 39.1, 39.2
func TestExamples(t *testing.T) {
	r := stream.New(9)
	for _, x := range [][2]string{{"\x4b", ""}, {"\x04", "a"}, {"\x00", ""}} {
		if n, ok := r.Done(); n != 0 || ok {
			t.Error("done too early")
		}
		if s, e := r.Feed(x[0]); s != x[1] || e != api.OK {
			t.Errorf("%x: %q %d", x[0], s, e)
		}
	}
	if n, ok := r.Done(); n != 3 || !ok {
		t.Error(n, ok)
	}
	if s, e := r.Feed("\xff\xff"); s != "" || e != api.OK {
		t.Error("after the end", s, e)
	}
	if n, ok := r.Done(); n != 3 || !ok {
		t.Error(n, ok)
	}
	for _, packed := range []string{flate.Simple("abcd"), flate.Rich("abcd")} {
		r = stream.New(3)
		if s, e := r.Feed(packed); s != "abc" || e != api.ErrLimit {
			t.Errorf("%q %d", s, e)
		}
		for range 2 {
			if s, e := r.Feed("x"); s != "" || e != api.ErrLimit {
				t.Errorf("%q %d", s, e)
			}
		}
		if n, ok := r.Done(); n != 0 || ok {
			t.Error(n, ok)
		}
	}
	if s, _, e := fed(flate.Store("abcd"), 1, 3); s != "" || e != api.ErrLimit {
		t.Errorf("%q %d", s, e)
	}
	if s, r, e := fed(flate.Store(""), 1, -5); s != "" || e != api.OK {
		t.Error(s, e)
	} else if n, ok := r.Done(); n != 5 || !ok {
		t.Error(n, ok)
	}
	if s, e := stream.New(math.MinInt).Feed("\x4b\x04\x00"); s != "" || e != api.ErrLimit {
		t.Error(s, e)
	}
}

// 39.3
func TestParts(t *testing.T) {
	texts := []string{"", "a", "aaaa", strings.Repeat("x", 70000), letters(65536, 256), strings.Repeat(letters(300, 256), 200), letters(66000, 77)}
	for i := range 12 {
		texts = append(texts, letters(i*97, 1+i*20), strings.Repeat(letters(i*25, 1+i*16), 1+i%5))
	}
	for i, s := range texts {
		var other bytes.Buffer
		w, _ := stdflate.NewWriter(&other, 1+i%9)
		w.Write([]byte(s))
		w.Flush()
		w.Write([]byte(s))
		w.Close()
		for j, packed := range []string{flate.Store(s), flate.Simple(s), flate.Rich(s), flate.Pack(s), other.String()} {
			want := s
			if j == 4 {
				want = s + s
			}
			for _, part := range []int{1, 2, 3, 7, 100, 4096, math.MaxInt} {
				if len(packed) > 5000 && part < 100 && (j != 0 || part != 1) {
					continue
				}
				got, r, e := fed(packed+"more", part, len(want))
				n, ok := r.Done()
				if got != want || e != api.OK || n != len(packed) || !ok {
					t.Fatalf("text %d, way %d, parts of %d: %d bytes, %d, %d of %d %v", i, j, part, len(got), e, n, len(packed), ok)
				}
				got, r, e = fed(packed[:len(packed)-1], part, len(want))
				if n, ok := r.Done(); n != 0 || ok || e != api.OK || !strings.HasPrefix(want, got) {
					t.Fatalf("text %d, way %d, parts of %d: done without its last byte", i, j, part)
				}
				if want != "" {
					got, _, e = fed(packed, part, len(want)-1)
					if e != api.ErrLimit || !strings.HasPrefix(want, got) || len(got) == len(want) {
						t.Fatalf("text %d, way %d, parts of %d: %d bytes, %d", i, j, part, len(got), e)
					}
				}
			}
		}
	}
}

// 39.1: each token is there as soon as it has arrived.
func TestTokens(t *testing.T) {
	s := strings.Repeat(letters(90, 200), 4) + letters(200, 30)
	l := lz.Parse(s)
	for kind := 1; kind <= 2; kind++ {
		var w bits.Writer
		flate.Block(&w, l, kind, true)
		packed := w.Bytes()
		a, b := flate.Fixed()
		if kind == 2 {
			a, b = frequent(l)
		}
		// From the end back: how many bits each token takes.
		ends := make([]int, len(l))
		at := w.Len() - a[256]
		for i := len(l) - 1; i >= 0; i-- {
			ends[i] = at
			at -= bitsOf(l[i], a, b)
		}
		r := stream.New(len(s))
		out := ""
		for i := range len(packed) {
			got, e := r.Feed(packed[i : i+1])
			if e != api.OK {
				t.Fatal(e)
			}
			out += got
			n := 0
			for n < len(l) && ends[n] <= 8*(i+1) {
				n++
			}
			if want, _ := lz.Expand(l[:n], len(s)); out != want {
				t.Fatalf("kind %d, after %d bytes: %d bytes, not %d", kind, i+1, len(out), len(want))
			}
		}
	}
	r := stream.New(300)
	packed := flate.Store(letters(250, 9))
	for i := range len(packed) {
		got, e := r.Feed(packed[i : i+1])
		if e != api.OK || (i < len(packed)-1) != (got == "") {
			t.Fatalf("stored, byte %d: %q %d", i, got, e)
		}
	}
}

func bitsOf(x api.Token, a, b []int) int {
	if x.Len == 0 {
		return a[x.Lit]
	}
	sym, extra, _ := flate.Length(x.Len)
	dist, more, _ := flate.Dist(x.Dist)
	return a[sym] + extra + b[dist] + more
}

func frequent(l []api.Token) ([]int, []int) {
	a, b := make([]int, 288), make([]int, 32)
	a[256] = 1
	for _, x := range l {
		if x.Len == 0 {
			a[x.Lit]++
			continue
		}
		sym, _, _ := flate.Length(x.Len)
		a[sym]++
		sym, _, _ = flate.Dist(x.Dist)
		b[sym]++
	}
	a, _ = huff.Lengths(a, 15)
	b, _ = huff.Lengths(b, 15)
	return a, b
}

// 39.1
func TestFaults(t *testing.T) {
	fixed := func(parts ...[2]int) string {
		var w bits.Writer
		w.Put(3, 3)
		for _, p := range parts {
			w.Code(p[0], p[1])
		}
		return w.Bytes()
	}
	a := [2]int{0x30 + 'a', 8}
	for i, x := range []struct {
		s, out string
		e      api.Errno
	}{
		{"\x07", "", api.ErrForm}, {"\x06", "", api.ErrForm}, {"\x01\x01\x00\xfe\xfe", "", api.ErrForm}, {"\x00\x01\x00\xfe\xffz\x07", "z", api.ErrForm},
		{fixed(a, [2]int{0xc6, 8}), "a", api.ErrForm}, {fixed(a, [2]int{0xc7, 8}), "a", api.ErrForm}, {fixed(a, [2]int{1, 7}, [2]int{30, 5}), "a", api.ErrForm}, {fixed(a, [2]int{1, 7}, [2]int{31, 5}), "a", api.ErrForm},
		{fixed(a, [2]int{1, 7}, [2]int{1, 5}), "a", api.ErrForm}, {fixed(a, [2]int{1, 7}, [2]int{0, 5}, [2]int{1, 7}, [2]int{4, 5}, [2]int{0, 1}), "aaaa", api.ErrForm}, {fixed([2]int{1, 7}, [2]int{0, 5}), "", api.ErrForm},
		{"\xf5\xc0", "", api.OK}, {"\xf5\x01\x01", "", api.ErrForm}, {"\x05\xfe\x01", "", api.ErrForm}, {"\x05\x00\x92\x04", "", api.ErrForm}, {"\x05\x00\x92", "", api.OK},
	} {
		for part := 1; part < 5; part++ {
			out, r, e := fed(x.s, part, 99)
			if out != x.out || e != x.e {
				t.Errorf("string %d, parts of %d: %q %d", i, part, out, e)
			}
			if x.e != api.OK {
				if again, e := r.Feed("anything"); again != "" || e != x.e {
					t.Errorf("string %d: %q %d the second time", i, again, e)
				}
			}
			if _, ok := r.Done(); ok {
				t.Errorf("string %d is done", i)
			}
		}
	}
}

// 39.1: bits are no code only when 15 of them have arrived.
func TestNoCode(t *testing.T) {
	for n := 1; n < 30; n++ {
		var w bits.Writer
		w.Put(5, 3)
		w.Put(1, 5)  // 258 lengths
		w.Put(0, 5)  // one distance
		w.Put(14, 4) // 18 lengths of lengths
		own := make([]int, 19)
		own[0], own[1], own[2], own[18] = 2, 2, 2, 2
		for _, i := range []int{16, 17, 18, 0, 8, 7, 9, 6, 10, 5, 11, 4, 12, 3, 13, 2, 14, 1} {
			w.Put(own[i], 3)
		}
		codes, _ := huff.Codes(own)
		put := func(sym, extra int) {
			w.Code(codes[sym], 2)
			if sym == 18 {
				w.Put(extra-11, 7)
			}
		}
		put(18, 97) // the byte a has 1 bit, the end and the length 3 have 2, the distance 1 has 1
		put(1, 0)
		put(18, 138)
		put(18, 20)
		put(2, 0)
		put(2, 0)
		put(1, 0)
		w.Put(0, n)  // n bytes a
		w.Code(3, 2) // a match
		w.Put(1, 1)  // but no distance
		before := w.Len() - 1
		w.Put(-1, 40)
		r := stream.New(99)
		out := ""
		for i := range len(w.Bytes()) {
			got, e := r.Feed(w.Bytes()[i : i+1])
			out += got
			if bits := 8 * (i + 1); bits < before+15 && e != api.OK || bits > before+15 && e != api.ErrForm {
				t.Fatalf("%d bytes, after %d bits, with %d ahead of what is no code: %d", n, 8*(i+1), before, e)
			}
		}
		if out != strings.Repeat("a", n) {
			t.Errorf("%d bytes: %q", n, out)
		}
	}
}

// 39.1: frequencies for which codes of all lengths are needed.
func TestAllLengths(t *testing.T) {
	var l []api.Token
	s := ""
	for i := range 15 {
		for range 1 << i {
			l = append(l, api.Token{Lit: 7 * i})
		}
		s += strings.Repeat(string([]byte{byte(7 * i)}), 1<<i)
	}
	var w bits.Writer
	flate.Block(&w, l, 2, true)
	for _, part := range []int{1, 50, 99999} {
		got, r, e := fed(w.Bytes(), part, len(s))
		if n, ok := r.Done(); got != s || e != api.OK || n != len(w.Bytes()) || !ok {
			t.Errorf("parts of %d: %d bytes, %d", part, len(got), e)
		}
	}
}

// 39.1: a match may begin 32768 bytes back, and no further, however long the output is.
func TestFarBack(t *testing.T) {
	long := letters(65535, 251)
	head := []byte(flate.Store(long))
	head[0] = 0
	for dist := 32760; dist <= 32768; dist++ {
		r := stream.New(300000)
		want := ""
		for range 3 {
			if s, e := r.Feed(string(head)); s != long || e != api.OK {
				t.Fatal(e)
			}
			want += long
		}
		var w bits.Writer
		w.Put(3, 3)
		w.Code(1, 7)
		w.Code(29, 5)
		w.Put(dist-24577, 13)
		w.Code(0, 7)
		s, e := r.Feed(w.Bytes())
		if at := len(want) - dist; s != want[at:at+3] || e != api.OK {
			t.Errorf("%d back: %q %d", dist, s, e)
		}
	}
}

// 39.1: the symbols 30 and 31 are no distances, however far back the string reaches.
func TestNoDistances(t *testing.T) {
	b := []byte(flate.Store(letters(60000, 200)))
	b[0] = 0
	for sym := range 32 {
		var w bits.Writer
		w.Put(3, 3)
		w.Code(1, 7)
		w.Code(sym, 5)
		w.Put(0, max((sym-2)/2, 0))
		w.Code(0, 7)
		out, _, e := fed(string(b)+w.Bytes(), 9999, 70000)
		if want := sym < 30; (e == api.OK) != want || !want && e != api.ErrForm || want && len(out) != 60003 || !want && len(out) != 60000 {
			t.Errorf("symbol %d: %d bytes, %d", sym, len(out), e)
		}
	}
}

// 39.1: whatever arrives, the result is that of Inflate, in whatever parts.
func TestAnyBytes(t *testing.T) {
	rich, simple := flate.Rich(letters(400, 20)+strings.Repeat("abc", 50)), flate.Simple(letters(100, 20)+strings.Repeat("abc", 50))
	n, stuck := 5, 0
	for i := range 6000 {
		b := []byte(rich)
		if i%3 == 2 {
			b = []byte(simple)
		}
		for range 1 + i%3 {
			n = n*6364136223846793005 + 1442695040888963407
			b[(n>>33&0xffff)%len(b)>>(i%4)] ^= 1 << (n >> 20 & 7)
		}
		s := string(b)
		want, used, e := inflate.Inflate(s, 700)
		all, r, e2 := fed(s, len(s), 700)
		done, ok := r.Done()
		switch {
		case e == api.OK && (e2 != api.OK || all != want || done != used || !ok), e == api.ErrLimit && e2 != api.ErrLimit, e == api.ErrForm && (e2 == api.ErrLimit || ok), e != api.OK && ok:
			t.Fatalf("%x: %d %d", s, e, e2)
		}
		if e == api.ErrForm && e2 == api.OK {
			stuck++
		}
		for _, part := range []int{1, 5} {
			parts, r, e3 := fed(s, part, 700)
			if done2, ok2 := r.Done(); parts != all || e3 != e2 || ok2 != ok || done2 != done {
				t.Fatalf("%x in parts: %d %d", s, e2, e3)
			}
		}
	}
	if stuck == 0 {
		t.Error("no input ended too early")
	}
}

// T4
func TestArchive(t *testing.T) {
	for _, n := range []int{0, 10, 300, 5000} {
		files := []api.File{{Path: "b", Data: letters(n, 256)}, {Path: "a", Data: strings.Repeat("text ", n)}}
		a, e := archive.Pack("secret", "0123456789abcdef", 1, files...)
		if e != api.OK {
			t.Fatal(e)
		}
		k := kdf.Keys("secret", a.Head.Salt)
		r := stream.New(a.Head.Raw)
		out := ""
		for i, b := range a.Blocks {
			if _, ok := r.Done(); ok {
				t.Error("done ahead of the last block")
			}
			chunk, e := block.Open(k, i, b)
			if e != api.OK {
				t.Fatal(e)
			}
			got, e := r.Feed(chunk)
			if e != api.OK {
				t.Fatal(e)
			}
			out += got
		}
		if used, ok := r.Done(); used != a.Head.Bytes || !ok || len(out) != a.Head.Raw {
			t.Error("the end", used, ok)
		}
		if got, e := filemap.Take(out); e != api.OK || !slices.Equal(got, filemap.Sort(files...)) {
			t.Error(e)
		}
	}
}

// P1
func TestNil(t *testing.T) {
	var r *stream.Reader
	s, e := r.Feed("x")
	n, ok := r.Done()
	if s != "" || e != api.ErrNone || n != 0 || ok {
		t.Error("nil")
	}
	r = stream.New(5)
	if s, e := r.Feed(""); s != "" || e != api.OK {
		t.Error("nothing")
	}
}
