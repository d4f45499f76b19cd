package header_test

import (
	"math"
	"strings"
	"testing"

	"sledge/api"
	"sledge/header"
	"sledge/mac"
)

func sample() api.Header {
	return api.Header{ID: 7, Salt: "0123456789abcdef", N: 3, Bytes: 500, Raw: 70000, Root: strings.Repeat("r", 32), Tag: strings.Repeat("t", 32)}
}

// wrong changes one field of a header so that it is not valid.
func wrong() []api.Header {
	var l []api.Header
	add := func(change func(h *api.Header)) {
		h := sample()
		change(&h)
		l = append(l, h)
	}
	for _, id := range []int{0, -1, 1 << 32, math.MinInt, math.MaxInt} {
		add(func(h *api.Header) { h.ID = id })
	}
	for _, n := range []int{0, 2, 4, -3, 3 + 1<<16, math.MaxInt} {
		add(func(h *api.Header) { h.N = n })
	}
	for _, n := range []int{0, -1, 384, 577, 49153, math.MaxInt, math.MinInt, 500 + 1<<32} {
		add(func(h *api.Header) { h.Bytes = n })
	}
	for _, raw := range []int{0, -1, 1<<27 + 1, 1 << 32, math.MinInt} {
		add(func(h *api.Header) { h.Raw = raw })
	}
	for _, s := range []string{"", "0123456789abcde", "0123456789abcdefg"} {
		add(func(h *api.Header) { h.Salt = s })
	}
	for _, s := range []string{"", strings.Repeat("r", 31), strings.Repeat("r", 33)} {
		add(func(h *api.Header) { h.Root = s })
		add(func(h *api.Header) { h.Tag = s })
	}
	add(func(h *api.Header) { h.Bytes, h.N = 0, 0 })
	add(func(h *api.Header) { h.Bytes, h.N = 49153, 257 })
	add(func(h *api.Header) { h.Salt, h.Root = h.Salt+"x", h.Root[1:] })
	return append(l, api.Header{})
}

// 18.1
func TestCheck(t *testing.T) {
	good := []api.Header{sample()}
	for _, x := range [][4]int{{1, 1, 1, 1}, {1<<32 - 1, 256, 49152, 1 << 27}, {2, 1, 192, 5}, {2, 2, 193, 5}, {2, 255, 48960, 5}, {2, 256, 48961, 5}} {
		h := sample()
		h.ID, h.N, h.Bytes, h.Raw = x[0], x[1], x[2], x[3]
		good = append(good, h)
	}
	for _, h := range good {
		if e := header.Check(h); e != api.OK {
			t.Errorf("%+v: %d", h, e)
		}
		s, e := header.Put(h)
		if e != api.OK || len(s) != header.Size || header.Size != 98 {
			t.Errorf("%+v: %d bytes, %d", h, len(s), e)
		}
		if got, e := header.Take(s); got != h || e != api.OK {
			t.Errorf("%+v: %+v, %d", h, got, e)
		}
	}
	for i, h := range wrong() {
		if e := header.Check(h); e != api.ErrArg {
			t.Errorf("header %d: %d", i, e)
		}
		if s, e := header.Put(h); s != "" || e != api.ErrArg {
			t.Errorf("Put of header %d: %d", i, e)
		}
		if e := header.Verify("key", header.Sign("key", h)); e != api.ErrArg && len(h.Tag) == 32 {
			t.Errorf("Verify of header %d: %d", i, e)
		}
	}
}

// 18.1
func TestPut(t *testing.T) {
	s, e := header.Put(sample())
	want := "SLG1\x00\x00\x00\x070123456789abcdef\x00\x03\x00\x00\x01\xf4\x00\x01\x11\x70" + strings.Repeat("r", 32) + strings.Repeat("t", 32)
	if s != want || e != api.OK {
		t.Errorf("%x %d", s, e)
	}
}

// 18.1
func TestTakeErrors(t *testing.T) {
	s, _ := header.Put(sample())
	for _, x := range []string{"", "x", s[:97], s + "x", s + "\x00", "x" + s, s[1:], "SLG2" + s[4:], "slg1" + s[4:],
		s[:4] + "\x00\x00\x00\x00" + s[8:], s[:24] + "\x00\x04" + s[26:], s[:26] + "\x00\x00\x00\x00" + s[30:], s[:30] + "\x00\x00\x00\x00" + s[34:], s[:30] + "\x08\x00\x00\x01" + s[34:], s[:26] + "\x01\x00\x01\xf4" + s[30:]} {
		if h, e := header.Take(x); h != (api.Header{}) || e != api.ErrForm {
			t.Errorf("%x: %+v %d", x, h, e)
		}
	}
	for i := range len(s) {
		b := []byte(s)
		b[i] ^= 0x10
		if h, e := header.Take(string(b)); e == api.OK {
			if again, e := header.Put(h); again != string(b) || e != api.OK || h == sample() {
				t.Errorf("byte %d changed", i)
			}
		}
	}
}

// 18.2, 18.3
func TestSignAndVerify(t *testing.T) {
	h := sample()
	s, _ := header.Put(h)
	for _, key := range []string{"", "key", strings.Repeat("k", 100)} {
		signed := header.Sign(key, h)
		want := h
		want.Tag = mac.Tag(key, s[:66])
		if signed != want {
			t.Errorf("%+v", signed)
		}
		if e := header.Verify(key, signed); e != api.OK {
			t.Errorf("key %q: %d", key, e)
		}
		if e := header.Verify(key+"x", signed); e != api.ErrTag {
			t.Errorf("another key: %d", e)
		}
		if e := header.Verify(key, h); e != api.ErrTag {
			t.Errorf("no tag: %d", e)
		}
		for i, change := range []func(h *api.Header){
			func(h *api.Header) { h.ID++ }, func(h *api.Header) { h.Salt = "1" + h.Salt[1:] }, func(h *api.Header) { h.N, h.Bytes = 1, 100 }, func(h *api.Header) { h.Bytes++ },
			func(h *api.Header) { h.Raw++ }, func(h *api.Header) { h.Root = "x" + h.Root[1:] }, func(h *api.Header) { h.Tag = "x" + h.Tag[1:] }, func(h *api.Header) { h.Tag = h.Tag[:31] + "x" },
		} {
			other := signed
			change(&other)
			if e := header.Verify(key, other); e != api.ErrTag {
				t.Errorf("change %d: %d", i, e)
			}
		}
	}
	odd := api.Header{ID: -1, Salt: "s", N: 1 << 20, Bytes: -5, Raw: 1 << 40, Root: "root", Tag: "tag"}
	signed := header.Sign("key", odd)
	odd.Tag = mac.Tag("key", "SLG1\xff\xff\xff\xffs\x00\x00\xff\xff\xff\xfb\x00\x00\x00\x00root")
	if signed != odd {
		t.Errorf("%+v", signed)
	}
}
