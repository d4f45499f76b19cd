package mac_test

import (
	"crypto/hmac"
	"crypto/sha256"
	"encoding/hex"
	"strings"
	"testing"

	"sledge/mac"
	"sledge/sha"
)

func want(key, s string) string {
	h := hmac.New(sha256.New, []byte(key))
	h.Write([]byte(s))
	return string(h.Sum(nil))
}

// 3.1
func TestVectors(t *testing.T) {
	for _, x := range [][3]string{
		{"Jefe", "what do ya want for nothing?", "5bdcc146bf60754e6a042426089575c75a003f089d2739839dec58b964ec3843"},
		{strings.Repeat("\x0b", 20), "Hi There", "b0344c61d8db38535ca8afceaf0bf12b881dc200c9833da726e9376c2e32cff7"},
		{strings.Repeat("\xaa", 131), "Test Using Larger Than Block-Size Key - Hash Key First", "60e431591ee0b67f0d8a26aacbf5b77f8e0bc6213728c5140546040f0ee37f54"},
	} {
		if s := hex.EncodeToString([]byte(mac.Tag(x[0], x[1]))); s != x[2] {
			t.Errorf("%q: %s", x[1], s)
		}
	}
}

// 3.1
func TestKeysAndParts(t *testing.T) {
	for n := range 140 {
		key := strings.Repeat("k", n/2) + strings.Repeat("\xfe", n-n/2)
		if mac.Tag(key, "some", "", " text") != want(key, "some text") {
			t.Errorf("a key of %d bytes", n)
		}
	}
	if mac.Tag("") != want("", "") || mac.Tag("k") != want("k", "") || len(mac.Tag("")) != 32 {
		t.Error("empty")
	}
	long := strings.Repeat("abc", 1000)
	if mac.Tag("k", long, long) != want("k", long+long) {
		t.Error("long")
	}
}

// 3.2
func TestEqual(t *testing.T) {
	for _, x := range []struct {
		a, b  string
		same  bool
		steps int
	}{
		{"", "", true, 0}, {"a", "a", true, 1}, {"ab", "ac", false, 2}, {"a", "a\x00", false, 2}, {"a\x00", "a", false, 2},
		{"", "\x00", false, 1}, {"xbc", "abc", false, 3}, {"axc", "abc", false, 3}, {"abc", "", false, 3},
		{"\x01\x02", "\x02\x01", false, 2}, {"\x03", "\x00", false, 1}, {"\x01\x01", "\x00\x00", false, 2},
		{strings.Repeat("x", 70), strings.Repeat("x", 70), true, 70}, {strings.Repeat("x", 256), "", false, 256},
		{strings.Repeat("\x00", 256), "", false, 256}, {strings.Repeat("\x00", 65536), "", false, 65536},
	} {
		if same, steps := mac.Equal(x.a, x.b); same != x.same || steps != x.steps {
			t.Errorf("%q, %q: %v %d", x.a, x.b, same, steps)
		}
	}
	for i := range 32 {
		for bit := range 8 {
			b := []byte(strings.Repeat("t", 32))
			b[i] ^= 1 << bit
			if same, steps := mac.Equal(strings.Repeat("t", 32), string(b)); same || steps != 32 {
				t.Errorf("byte %d, bit %d: %v %d", i, bit, same, steps)
			}
		}
	}
}

// 3.3
func TestKeysThatAreAlike(t *testing.T) {
	for _, n := range []int{65, 66, 100, 128, 500} {
		key := strings.Repeat("q", n)
		if mac.Tag(key, "x") != mac.Tag(sha.Sum(key), "x") {
			t.Errorf("%d bytes and their sum", n)
		}
	}
	for n := range 64 {
		key := strings.Repeat("q", n)
		if mac.Tag(key, "x") != mac.Tag(key+"\x00", "x") {
			t.Errorf("%d bytes and a byte 0", n)
		}
	}
	key := strings.Repeat("q", 64)
	if mac.Tag(key, "x") == mac.Tag(key+"\x00", "x") || mac.Tag(key, "x") == mac.Tag(sha.Sum(key), "x") {
		t.Error("64 bytes")
	}
}
