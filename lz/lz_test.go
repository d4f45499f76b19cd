package lz_test

import (
	"math"
	"slices"
	"strings"
	"testing"

	"sledge/api"
	"sledge/lz"
)

func lit(s string) []api.Token {
	var out []api.Token
	for i := range len(s) {
		out = append(out, api.Token{Lit: int(s[i])})
	}
	return out
}

func match(n, dist int) api.Token {
	return api.Token{Len: n, Dist: dist}
}

// plain does what 8.1 says, word by word.
func plain(s string) []api.Token {
	var out []api.Token
	for i := 0; i < len(s); {
		best, dist := 0, 0
		for d := 1; d <= 4096 && d <= i; d++ {
			n := 0
			for n < 258 && i+n < len(s) && s[i+n] == s[i+n-d] {
				n++
			}
			if n > best {
				best, dist = n, d
			}
		}
		if best >= 3 {
			out = append(out, match(best, dist))
			i += best
		} else {
			out = append(out, api.Token{Lit: int(s[i])})
			i++
		}
	}
	return out
}

func letters(n, of int) string {
	b := make([]byte, n)
	x := n + of
	for i := range b {
		x = x*6364136223846793005 + 1442695040888963407
		b[i] = byte('a' + (x>>40&0xffff)%of)
	}
	return string(b)
}

// 8.1
func TestParse(t *testing.T) {
	for _, x := range []struct {
		s    string
		want []api.Token
	}{
		{"", nil}, {"a", lit("a")}, {"aa", lit("aa")}, {"aaa", lit("aaa")}, {"\x00\xff", lit("\x00\xff")},
		{"aaaa", append(lit("a"), match(3, 1))},
		{"abcabcabc", append(lit("abc"), match(6, 3))},
		{strings.Repeat("x", 300), append(lit("x"), match(258, 1), match(41, 1))},
		{strings.Repeat("x", 261), append(lit("x"), match(258, 1), api.Token{Lit: 'x'}, api.Token{Lit: 'x'})},
		{"abcdXabceYabcd", slices.Concat(lit("abcdX"), []api.Token{match(3, 5)}, lit("eY"), []api.Token{match(4, 10)})},
		{"abcXabcYabc", slices.Concat(lit("abcX"), []api.Token{match(3, 4)}, lit("Y"), []api.Token{match(3, 4)})},
		{"abababab", append(lit("ab"), match(6, 2))},
	} {
		if got := lz.Parse(x.s); !slices.Equal(got, x.want) {
			t.Errorf("Parse(%q) = %v", x.s, got)
		}
	}
}

// 8.1
func TestParseWindow(t *testing.T) {
	filler := make([]byte, 0, 8192)
	for a := range 64 {
		for b := range 64 {
			filler = append(filler, byte(128+a), byte(64+b))
		}
	}
	for gap, found := range map[int]bool{4090: true, 4093: true, 4094: false, 4100: false, 5000: false} {
		s := "abc" + string(filler[:gap]) + "abc"
		got := lz.Parse(s)
		if last := got[len(got)-1]; (last == match(3, gap+3)) != found {
			t.Errorf("a distance of %d: %v", gap+3, last)
		}
		if !slices.Equal(got, plain(s)) {
			t.Errorf("a distance of %d: not as it should be", gap+3)
		}
	}
}

// 8.1, 8.3
func TestParsePlainly(t *testing.T) {
	texts := []string{
		letters(3000, 2), letters(3000, 3), letters(6000, 5), letters(9000, 11), letters(9000, 26),
		strings.Repeat(letters(700, 4), 9), strings.Repeat(letters(4096, 26), 3), strings.Repeat(letters(4097, 26), 3),
		strings.Repeat(letters(257, 26)+"!", 30), strings.Repeat("ab", 5000) + strings.Repeat("abc", 3000),
	}
	for i, s := range texts {
		got := lz.Parse(s)
		if !slices.Equal(got, plain(s)) {
			t.Errorf("text %d is parsed otherwise", i)
		}
		if again, e := lz.Expand(got, len(s)); again != s || e != api.OK {
			t.Errorf("text %d is expanded otherwise: %d", i, e)
		}
	}
}

// 8.2
func TestExpand(t *testing.T) {
	for _, x := range []struct {
		l    []api.Token
		most int
		s    string
		e    api.Errno
	}{
		{append(lit("x"), match(4, 1)), 5, "xxxxx", api.OK},
		{append(lit("abc"), match(7, 3)), 99, "abcabcabca", api.OK},
		{append(lit("\x00\x01\xff"), match(3, 3)), 6, "\x00\x01\xff\x00\x01\xff", api.OK},
		{nil, 0, "", api.OK}, {nil, -1, "", api.OK},
		{lit("a"), 0, "", api.ErrLimit}, {lit("a"), -1, "", api.ErrLimit}, {lit("a"), math.MinInt, "", api.ErrLimit},
		{append(lit("x"), match(4, 1)), 4, "", api.ErrLimit},
		{append(lit("x"), match(258, 1)), 100, "", api.ErrLimit},
		{append(lit("x"), match(258, 1)), 259, strings.Repeat("x", 259), api.OK},
		{[]api.Token{{Lit: 256}}, 9, "", api.ErrForm}, {[]api.Token{{Lit: -1}}, 9, "", api.ErrForm}, {[]api.Token{{Lit: 255}}, 9, "\xff", api.OK},
		{[]api.Token{{Dist: 1, Lit: 5}}, 9, "", api.ErrForm}, {[]api.Token{{Dist: -1}}, 9, "", api.ErrForm},
		{append(lit("xxx"), api.Token{Len: 3, Dist: 1, Lit: 1}), 9, "", api.ErrForm},
		{append(lit("xxx"), match(2, 1)), 9, "", api.ErrForm}, {append(lit("xxx"), match(259, 1)), 999, "", api.ErrForm},
		{append(lit("xxx"), match(-3, 1)), 9, "", api.ErrForm}, {append(lit("xxx"), match(math.MinInt, 1)), 9, "", api.ErrForm},
		{append(lit("xxx"), match(3, 0)), 9, "", api.ErrForm}, {append(lit("xxx"), match(3, -1)), 9, "", api.ErrForm},
		{append(lit("xxx"), match(3, 4)), 9, "", api.ErrForm}, {append(lit("xyz"), match(3, 3)), 9, "xyzxyz", api.OK},
		{append(lit("xxx"), match(3, 4)), 5, "", api.ErrForm}, {append(lit("xxx"), match(3, 4)), 2, "", api.ErrLimit},
		{[]api.Token{{Lit: 1}, {Lit: 300}}, 0, "", api.ErrLimit}, {[]api.Token{match(3, 1)}, 0, "", api.ErrForm},
	} {
		if s, e := lz.Expand(x.l, x.most); s != x.s || e != x.e {
			t.Errorf("Expand(%v, %d) = %q %d", x.l, x.most, s, e)
		}
	}
	far := lit(strings.Repeat("q", 40000))
	far[40000-32768].Lit = 'z'
	if s, e := lz.Expand(append(far, match(3, 32768)), 50000); e != api.OK || !strings.HasSuffix(s, "qzqq") {
		t.Errorf("32768: %d", e)
	}
	if s, e := lz.Expand(append(far, match(3, 32769)), 50000); e != api.ErrForm || s != "" {
		t.Errorf("32769: %d", e)
	}
}

// 8.3
func TestRoundTrip(t *testing.T) {
	for n := range 400 {
		s := letters(n, 1+n%6)
		if got, e := lz.Expand(lz.Parse(s), n); got != s || e != api.OK {
			t.Errorf("%q: %q %d", s, got, e)
		}
	}
}
