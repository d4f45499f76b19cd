package sha_test

import (
	"crypto/sha256"
	"encoding/hex"
	"strings"
	"testing"

	"sledge/sha"
)

func want(s string) string {
	sum := sha256.Sum256([]byte(s))
	return string(sum[:])
}

func pattern(n int) string {
	b := make([]byte, n)
	for i := range b {
		b[i] = byte(i*i*7 + i>>3)
	}
	return string(b)
}

// 2.1
func TestVectors(t *testing.T) {
	for _, x := range [][2]string{
		{"", "e3b0c44298fc1c149afbf4c8996fb92427ae41e4649b934ca495991b7852b855"},
		{"abc", "ba7816bf8f01cfea414140de5dae2223b00361a396177a9cb410ff61f20015ad"},
		{"abcdbcdecdefdefgefghfghighijhijkijkljklmklmnlmnomnopnopq", "248d6a61d20638b8e5c026930c3e6039a33ce45964ff2167f6ecedd419db06c1"},
		{strings.Repeat("a", 1000000), "cdc76e5c9914fb9281a1c7e284d73e67f1809a48a497200e046d39ccc7112cd0"},
	} {
		if s := hex.EncodeToString([]byte(sha.Sum(x[0]))); s != x[1] {
			t.Errorf("%.9q: %s", x[0], s)
		}
	}
	if sha.Sum() != sha.Sum("") || sha.Sum("a", "", "bc") != sha.Sum("abc") || sha.Sum("ab", "c") == sha.Sum("ac", "b") {
		t.Error("parts")
	}
}

// 2.1, 2.3
func TestLengths(t *testing.T) {
	for n := range 300 {
		s := pattern(n)
		got := sha.Sum(s)
		if got != want(s) {
			t.Errorf("%d bytes: %x", n, got)
		}
		if len(got) != 32 {
			t.Errorf("%d bytes: a sum of %d", n, len(got))
		}
	}
}

// 2.2
func TestHash(t *testing.T) {
	h := sha.New()
	if h.Sum() != want("") {
		t.Error("empty")
	}
	all := ""
	for i := range 150 {
		part := pattern(i % 71)
		h.Write(part)
		all += part
		if h.Sum() != want(all) || h.Sum() != want(all) {
			t.Fatalf("after %d parts", i+1)
		}
	}
	other := sha.New()
	other.Write("x")
	if h.Sum() != want(all) || other.Sum() != want("x") {
		t.Error("two objects")
	}
	var none *sha.Hash
	none.Write("abc")
	if none.Sum() != "" {
		t.Error("nil")
	}
}

// 2.3
func TestDivided(t *testing.T) {
	s := pattern(200)
	for i := 0; i <= len(s); i += 3 {
		for j := i; j <= len(s); j += 13 {
			if sha.Sum(s[:i], s[i:j], s[j:]) != want(s) {
				t.Fatalf("divided at %d and %d", i, j)
			}
			h := sha.New()
			h.Write(s[:i])
			h.Write(s[i:j])
			h.Write(s[j:])
			if h.Sum() != want(s) {
				t.Fatalf("written up to %d and %d", i, j)
			}
		}
	}
}
