package enc_test

import (
	"math"
	"strings"
	"testing"

	"sledge/api"
	"sledge/enc"
)

var numbers = []struct {
	n int
	s string
}{
	{0, "\x00"}, {1, "\x01"}, {5, "\x05"}, {127, "\x7f"}, {128, "\x80"}, {246, "\xf6"}, {247, "\xf7"},
	{248, "\xf8\xf8"}, {254, "\xf8\xfe"}, {255, "\xf8\xff"}, {256, "\xf9\x01\x00"}, {65535, "\xf9\xff\xff"},
	{65536, "\xfa\x01\x00\x00"}, {1<<24 - 1, "\xfa\xff\xff\xff"}, {1 << 24, "\xfb\x01\x00\x00\x00"},
	{1<<32 - 1, "\xfb\xff\xff\xff\xff"}, {1 << 32, "\xfc\x01\x00\x00\x00\x00"},
	{1<<40 - 1, "\xfc\xff\xff\xff\xff\xff"}, {1 << 40, "\xfd\x01\x00\x00\x00\x00\x00"},
	{1 << 48, "\xfe\x01\x00\x00\x00\x00\x00\x00"}, {api.MaxNum, "\xfe\xff\xff\xff\xff\xff\xff\xff"},
}

// 1.1
func TestPutNum(t *testing.T) {
	for _, x := range numbers {
		if s := enc.PutNum(x.n); s != x.s {
			t.Errorf("PutNum(%d) = %x", x.n, s)
		}
	}
	if s := enc.PutNum(1, 300, 2); s != "\x01\xf9\x01\x2c\x02" {
		t.Errorf("several: %x", s)
	}
	if s := enc.PutNum(); s != "" {
		t.Errorf("none: %x", s)
	}
	for _, n := range []int{-1, -248, math.MinInt} {
		if s := enc.PutNum(n); s != "\x00" {
			t.Errorf("PutNum(%d) = %x", n, s)
		}
	}
	for _, n := range []int{api.MaxNum + 1, 1 << 60, math.MaxInt} {
		if s := enc.PutNum(n); s != "\xfe\xff\xff\xff\xff\xff\xff\xff" {
			t.Errorf("PutNum(%d) = %x", n, s)
		}
	}
}

// 1.1
func TestTakeNum(t *testing.T) {
	for _, x := range numbers {
		for _, rest := range []string{"", "z", "\xff\x00"} {
			if n, r, e := enc.TakeNum(x.s + rest); n != x.n || r != rest || e != api.OK {
				t.Errorf("TakeNum(%x) = %d %q %d", x.s+rest, n, r, e)
			}
		}
		for i := 0; i < len(x.s); i++ {
			if n, r, e := enc.TakeNum(x.s[:i]); n != 0 || r != "" || e != api.ErrForm {
				t.Errorf("TakeNum(%x) = %d %q %d", x.s[:i], n, r, e)
			}
		}
	}
	wrong := []string{"", "\xff", "\xff\x01\x00\x00\x00\x00\x00\x00\x00", "\xff\x7f\xff\xff\xff\xff\xff\xff\xffz", "\xff\xff\xff\xff\xff\xff\xff\xff\xff\xff", "\xf8\x00z", "\xf8\xf7z", "\xf9\x00\xffz",
		"\xfa\x00\xff\xffz", "\xfb\x00\xff\xff\xffz", "\xfc\x00\xff\xff\xff\xff", "\xfd\x00\xff\xff\xff\xff\xff", "\xfe\x00\xff\xff\xff\xff\xff\xffz", "\xf9\x00\x05"}
	for _, s := range wrong {
		if n, r, e := enc.TakeNum(s); n != 0 || r != "" || e != api.ErrForm {
			t.Errorf("TakeNum(%x) = %d %q %d", s, n, r, e)
		}
	}
}

// 1.2
func TestPutText(t *testing.T) {
	if s := enc.PutText("ab"); s != "\x02ab" {
		t.Errorf("%x", s)
	}
	if s := enc.PutText(""); s != "\x00" {
		t.Errorf("%x", s)
	}
	long := strings.Repeat("x", 300)
	if s := enc.PutText(long); s != "\xf9\x01\x2c"+long {
		t.Errorf("long: %x", s[:9])
	}
}

// 1.2
func TestTakeText(t *testing.T) {
	for _, x := range []struct {
		s    string
		most int
		a, b string
		e    api.Errno
	}{
		{"\x02abc", 2, "ab", "c", api.OK},
		{"\x02ab", 9, "ab", "", api.OK},
		{"\x00abc", 0, "", "abc", api.OK},
		{"\x02abc", 1, "", "", api.ErrFull},
		{"\x02a", 1, "", "", api.ErrFull},
		{"\x00", -1, "", "", api.ErrFull},
		{"\x04abc", 9, "", "", api.ErrForm},
		{"\x04abc", 4, "", "", api.ErrForm},
		{"", 9, "", "", api.ErrForm},
		{"\xf8\x02ab", 0, "", "", api.ErrForm},
		{"\xff", -1, "", "", api.ErrForm},
		{"\xfe\xff\xff\xff\xff\xff\xff\xffab", math.MaxInt, "", "", api.ErrForm},
	} {
		if a, b, e := enc.TakeText(x.s, x.most); a != x.a || b != x.b || e != x.e {
			t.Errorf("TakeText(%x, %d) = %q %q %d", x.s, x.most, a, b, e)
		}
	}
}

// 1.3
func TestFixed(t *testing.T) {
	for _, x := range []struct {
		n, bytes int
		s        string
	}{
		{258, 2, "\x01\x02"}, {0x1234, 1, "\x34"}, {-1, 3, "\xff\xff\xff"}, {1, 0, ""}, {1, -5, ""}, {1, math.MinInt, ""},
		{1, 8, "\x00\x00\x00\x00\x00\x00\x00\x01"}, {1, 9, "\x00\x00\x00\x00\x00\x00\x00\x01"}, {-2, math.MaxInt, "\xff\xff\xff\xff\xff\xff\xff\xfe"},
		{0x0102030405060708, 5, "\x04\x05\x06\x07\x08"}, {math.MinInt, 8, "\x80\x00\x00\x00\x00\x00\x00\x00"},
	} {
		if s := enc.Fixed(x.n, x.bytes); s != x.s {
			t.Errorf("Fixed(%d, %d) = %x", x.n, x.bytes, s)
		}
	}
}

// 1.3
func TestTake(t *testing.T) {
	for _, x := range []struct {
		s     string
		bytes int
		n     int
		rest  string
		e     api.Errno
	}{
		{"\x01\x02z", 2, 258, "z", api.OK},
		{"\xff", 1, 255, "", api.OK},
		{"\xff\xff\xff\xff\xff\xff\xff", 7, 1<<56 - 1, "", api.OK},
		{"\xff\xff\xff\xff\xff\xff\xff\xfe", 8, -2, "", api.OK},
		{"\x80\x00\x00\x00\x00\x00\x00\x00yz", 8, math.MinInt, "yz", api.OK},
		{"ab", 0, 0, "", api.ErrArg},
		{"ab", -1, 0, "", api.ErrArg},
		{"abcdefghij", 9, 0, "", api.ErrArg},
		{"", 0, 0, "", api.ErrArg},
		{"", 1, 0, "", api.ErrForm},
		{"abcdefg", 8, 0, "", api.ErrForm},
	} {
		if n, rest, e := enc.Take(x.s, x.bytes); n != x.n || rest != x.rest || e != x.e {
			t.Errorf("Take(%x, %d) = %d %q %d", x.s, x.bytes, n, rest, e)
		}
	}
}

// 1.4
func TestRoundTrips(t *testing.T) {
	seen := map[string]bool{}
	for shift := range 57 {
		for d := -2; d <= 2; d++ {
			n := min(max(1<<shift+d, 0), api.MaxNum)
			s := enc.PutNum(n)
			if m, rest, e := enc.TakeNum(s + "rest"); m != n || rest != "rest" || e != api.OK {
				t.Errorf("%d: %d %q %d", n, m, rest, e)
			}
			if n >= 0 && shift > 1 {
				seen[s] = true
			}
			for b := 1; b <= 8; b++ {
				if m, _, e := enc.Take(enc.Fixed(n, b), b); e != api.OK || b == 8 && m != n || b < 8 && m != n&(1<<(8*b)-1) {
					t.Errorf("%d of %d bytes: %d %d", n, b, m, e)
				}
			}
		}
	}
	for a := range seen {
		for b := range seen {
			if a != b && strings.HasPrefix(a, b) {
				t.Errorf("%x begins with %x", a, b)
			}
		}
	}
	for a := range 256 {
		for b := range 256 {
			s := string([]byte{byte(a), byte(b), 7})
			n, rest, e := enc.TakeNum(s)
			if e == api.OK && enc.PutNum(n)+rest != s {
				t.Errorf("%x is decoded as %d", s, n)
			}
			if (e == api.OK) != (a <= 247 || a == 248 && b > 247 || a == 249 && b > 0) {
				t.Errorf("%x: %d", s, e)
			}
		}
	}
	for _, s := range []string{"", "a", strings.Repeat("b", 247), strings.Repeat("c", 248), strings.Repeat("d", 70000)} {
		if a, rest, e := enc.TakeText(enc.PutText(s)+"x", len(s)); a != s || rest != "x" || e != api.OK {
			t.Errorf("text of %d bytes: %d", len(s), e)
		}
	}
}
