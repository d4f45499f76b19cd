package solid_test

import (
	"math"
	"slices"
	"strings"
	"testing"

	"sledge/api"
	"sledge/filemap"
	"sledge/flate"
	"sledge/solid"
)

func f(p, data string) api.File { return api.File{Path: p, Data: data} }

func noise(n int) string {
	b := make([]byte, n)
	x := n
	for i := range b {
		x = x*6364136223846793005 + 1442695040888963407
		b[i] = byte(x >> 40)
	}
	return string(b)
}

var lists = [][]api.File{
	nil, {f("a", "")}, {f("b", "x"), f("a", "yy")}, {f("dir/file", strings.Repeat("text ", 500)), f("dir/other", noise(300))},
	{f("zeros", strings.Repeat("\x00", 200000))}, {f("noise", noise(40000))},
}

// 13.1, 13.3
func TestSqueezeAndOpen(t *testing.T) {
	for i, l := range lists {
		s, raw, e := solid.Squeeze(l...)
		put, _ := filemap.Put(l...)
		if s != flate.Pack(put) || raw != len(put) || e != api.OK {
			t.Errorf("list %d: %d bytes, %d, %d", i, len(s), raw, e)
		}
		got, e := solid.Open(s, raw)
		if !slices.Equal(got, filemap.Sort(l...)) || e != api.OK {
			t.Errorf("list %d: %d files, %d", i, len(got), e)
		}
		for _, x := range []struct {
			s   string
			raw int
			e   api.Errno
		}{
			{s, raw - 1, api.ErrLimit}, {s, raw + 1, api.ErrForm}, {s, 0, api.ErrLimit}, {s, -1, api.ErrLimit}, {s, math.MinInt, api.ErrLimit}, {s, math.MaxInt, api.ErrForm},
			{s + "\x00", raw, api.ErrForm}, {s[:len(s)-1], raw, api.ErrForm}, {"", raw, api.ErrForm}, {s + strings.Repeat("x", 49153-len(s)), raw, api.ErrFull}, {s + strings.Repeat("x", 49152-len(s)), raw, api.ErrForm},
		} {
			if got, e := solid.Open(x.s, x.raw); e != x.e || len(got) > 0 {
				t.Errorf("list %d, %d bytes, raw %d: %d files, %d", i, len(x.s), x.raw, len(got), e)
			}
		}
	}
}

// 13.1
func TestSqueezeErrors(t *testing.T) {
	for i, x := range []struct {
		l []api.File
		e api.Errno
	}{
		{[]api.File{f("a", ""), f("a", "")}, api.ErrDup}, {[]api.File{f("../a", "")}, api.ErrPath}, {make([]api.File, 65), api.ErrFull},
		{[]api.File{f("a", noise(50000))}, api.ErrFull}, {[]api.File{f("a", noise(49152))}, api.ErrFull}, {[]api.File{f("a", noise(50000)), f("a", "")}, api.ErrDup},
	} {
		if s, raw, e := solid.Squeeze(x.l...); s != "" || raw != 0 || e != x.e {
			t.Errorf("list %d: %d bytes, %d, %d", i, len(s), raw, e)
		}
	}
	// As many bytes as a stream may have, and one more: a stored block of 5 bytes, around a list with 1 + 2 + 3 bytes of its own.
	for n, want := range map[int]api.Errno{49152 - 5 - 6: api.OK, 49152 - 5 - 5: api.ErrFull} {
		s, _, e := solid.Squeeze(f("a", noise(n)))
		if e != want || e == api.OK && len(s) != solid.MaxBytes {
			t.Errorf("%d bytes: %d, %d", n, len(s), e)
		}
	}
}

// 13.1
func TestOpenOthers(t *testing.T) {
	for _, x := range []struct {
		s string
		e api.Errno
	}{
		{"\x00", api.OK}, {"\x01", api.ErrForm}, {"", api.ErrForm}, {"\x41", api.ErrFull}, {"\x02\x01b\x00\x01a\x00", api.ErrForm}, {"\x01\x02/a\x00", api.ErrPath}, {"\x02\x01a\x00\x03a/b\x00", api.ErrDup}, {"\x00x", api.ErrForm},
	} {
		for _, packed := range []string{flate.Store(x.s), flate.Simple(x.s), flate.Rich(x.s)} {
			if l, e := solid.Open(packed, len(x.s)); e != x.e || len(l) > 0 {
				t.Errorf("%x: %v %d", x.s, l, e)
			}
		}
	}
	if _, e := solid.Open(flate.Simple(""), -1); e != api.ErrForm {
		t.Error("raw -1:", e)
	}
}

// 13.2
func TestSplit(t *testing.T) {
	for _, n := range []int{0, 1, 191, 192, 193, 384, 385, 49152, 60000} {
		s := noise(n)
		l := solid.Split(s)
		if len(l) != (n+191)/192 {
			t.Fatalf("%d bytes: %d chunks", n, len(l))
		}
		for i, c := range l {
			if len(c) != 192 {
				t.Errorf("%d bytes: chunk %d has %d", n, i, len(c))
			}
		}
		if all := strings.Join(l, ""); all != s+strings.Repeat("\x00", len(l)*192-n) {
			t.Errorf("%d bytes: others", n)
		}
	}
	if l := solid.Split(strings.Repeat("x", 193)); !slices.Equal(l, []string{strings.Repeat("x", 192), "x" + strings.Repeat("\x00", 191)}) {
		t.Errorf("%q", l)
	}
}

// 13.2, 13.3
func TestJoin(t *testing.T) {
	for _, n := range []int{0, 1, 192, 193, 384, 1000, 49151, 49152} {
		s := noise(n)
		if got, e := solid.Join(n, solid.Split(s)...); got != s || e != api.OK {
			t.Errorf("%d bytes: %d", n, e)
		}
	}
	c := strings.Repeat("c", 192)
	z := strings.Repeat("\x00", 192)
	for i, x := range []struct {
		n int
		l []string
		s string
		e api.Errno
	}{
		{0, nil, "", api.OK}, {1, []string{"c" + z[1:]}, "c", api.OK}, {384, []string{c, c}, c + c, api.OK}, {383, []string{c, c[1:] + "\x00"}, c + c[1:], api.OK}, {10, []string{z}, z[:10], api.OK},
		{384, []string{c, c, c}, "", api.ErrArg}, {384, []string{c, c, z}, "", api.ErrArg}, {385, []string{c, c}, "", api.ErrArg}, {-1, nil, "", api.ErrArg}, {math.MinInt, nil, "", api.ErrArg}, {math.MaxInt, nil, "", api.ErrArg},
		{0, []string{z}, "", api.ErrArg}, {1, nil, "", api.ErrArg}, {49153, slices.Repeat([]string{z}, 257), "", api.ErrArg}, {49152, slices.Repeat([]string{c}, 256), strings.Repeat(c, 256), api.OK},
		{192, []string{c + "c"}, "", api.ErrArg}, {192, []string{c[1:]}, "", api.ErrArg}, {300, []string{c[1:], c + "c"}, "", api.ErrArg},
		{191, []string{c}, "", api.ErrForm}, {193, []string{c, c}, "", api.ErrForm}, {200, []string{c, z[1:] + "x"}, "", api.ErrForm},
	} {
		if s, e := solid.Join(x.n, x.l...); s != x.s || e != x.e {
			t.Errorf("case %d: %.20q %d", i, s, e)
		}
	}
}
