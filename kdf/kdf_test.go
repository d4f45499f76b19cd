package kdf_test

import (
	"crypto/hkdf"
	"crypto/sha256"
	"encoding/hex"
	"math"
	"strings"
	"testing"

	"sledge/api"
	"sledge/kdf"
	"sledge/mac"
)

func raw(s string) string {
	b, err := hex.DecodeString(s)
	if err != nil {
		panic(err)
	}
	return string(b)
}

// 5.1
func TestVectors(t *testing.T) {
	key := kdf.Extract(raw("000102030405060708090a0b0c"), strings.Repeat("\x0b", 22))
	if key != raw("077709362c2e32df0ddc3f0dc47bba6390b6c73bb50f9c3122ec844ad7c2b3e5") {
		t.Errorf("%x", key)
	}
	s, e := kdf.Expand(key, raw("f0f1f2f3f4f5f6f7f8f9"), 42)
	if s != raw("3cb25f25faacd57a90434f64d0362f2a2d2d0a90cf1a5a4c5db02d56ecc4c5bf34007208d5b887185865") || e != api.OK {
		t.Errorf("%x %d", s, e)
	}
	for _, x := range [][2]string{{"", ""}, {"salt", "secret"}, {strings.Repeat("s", 70), "x"}, {"", "secret"}} {
		if kdf.Extract(x[0], x[1]) != mac.Tag(x[0], x[1]) {
			t.Errorf("%q", x)
		}
	}
}

// 5.1, 5.3
func TestExpand(t *testing.T) {
	long, err := hkdf.Expand(sha256.New, []byte("key"), "info", kdf.MaxBytes)
	if err != nil {
		t.Fatal(err)
	}
	for _, n := range []int{0, 1, 31, 32, 33, 64, 100, 8159, 8160} {
		if s, e := kdf.Expand("key", "info", n); s != string(long[:n]) || e != api.OK {
			t.Errorf("%d bytes: %d of them, %d", n, len(s), e)
		}
	}
	for _, n := range []int{-1, 8161, math.MinInt, math.MaxInt} {
		if s, e := kdf.Expand("key", "info", n); s != "" || e != api.ErrRange {
			t.Errorf("%d bytes: %d of them, %d", n, len(s), e)
		}
	}
	if kdf.MaxBytes != 8160 {
		t.Error(kdf.MaxBytes)
	}
}

// 5.2
func TestKeys(t *testing.T) {
	for _, x := range [][2]string{{"secret", "salt"}, {"", ""}, {"secret", ""}, {"", "0123456789abcdef"}, {strings.Repeat("long", 40), strings.Repeat("salt", 40)}} {
		secret, salt := x[0], x[1]
		part := func(salt, info string) string {
			s, e := kdf.Expand(mac.Tag(salt, secret), info, 32)
			if e != api.OK {
				t.Error(e)
			}
			return s
		}
		want := api.Keys{Enc: part(salt, "sledge bytes"), Mac: part(salt, "sledge tags"), Head: part("", "sledge heads")}
		if got := kdf.Keys(secret, salt); got != want {
			t.Errorf("%q: %x", x, got)
		}
	}
	a, b, c := kdf.Keys("s", "x"), kdf.Keys("s", "y"), kdf.Keys("t", "x")
	if a.Head != b.Head || a.Enc == b.Enc || a.Mac == b.Mac || a.Enc == a.Mac || a.Head == c.Head || a.Enc == c.Enc {
		t.Error("what keys depend on")
	}
	if len(a.Enc) != 32 || len(a.Mac) != 32 || len(a.Head) != 32 {
		t.Error("lengths")
	}
}
