package chacha_test

import (
	"encoding/hex"
	"math"
	"strings"
	"testing"

	"sledge/api"
	"sledge/chacha"
)

const (
	rfcKey  = "000102030405060708090a0b0c0d0e0f101112131415161718191a1b1c1d1e1f"
	lastOne = 1<<32 - 1
)

func raw(s string) string {
	b, err := hex.DecodeString(strings.ReplaceAll(s, " ", ""))
	if err != nil {
		panic(err)
	}
	return string(b)
}

// 4.1
func TestQuarter(t *testing.T) {
	for _, x := range [][8]int{
		{0x11111111, 0x01020304, 0x9b8d6f43, 0x01234567, 0xea2a92f4, 0xcb1cf8ce, 0x4581472e, 0x5881c4bb},
		{0x516461b1, 0x2a5f714c, 0x53372767, 0x3d631689, 0xbdb886dc, 0xcfacafd2, 0xe46bea80, 0xccc07c79},
		{-1<<32 | 0x11111111, 1<<40 | 0x01020304, 7<<32 | 0x9b8d6f43, math.MinInt | 0x01234567, 0xea2a92f4, 0xcb1cf8ce, 0x4581472e, 0x5881c4bb},
		{0, 0, 0, 0, 0, 0, 0, 0},
	} {
		if a, b, c, d := chacha.Quarter(x[0], x[1], x[2], x[3]); [4]int{a, b, c, d} != [4]int(x[4:]) {
			t.Errorf("Quarter(%x) = %x %x %x %x", x[:4], a, b, c, d)
		}
		low := [4]int{x[0] & lastOne, x[1] & lastOne, x[2] & lastOne, x[3] & lastOne}
		if a, b, c, d := chacha.Back(x[4], x[5]-1<<32, x[6]+1<<50, x[7]); [4]int{a, b, c, d} != low {
			t.Errorf("Back(%x) = %x %x %x %x", x[4:], a, b, c, d)
		}
	}
	n := 12345
	for range 200 {
		var v [4]int
		for i := range v {
			n = (n*6364136223846793005 + 1442695040888963407)
			v[i] = n >> 13
		}
		a, b, c, d := chacha.Quarter(v[0], v[1], v[2], v[3])
		e, f, g, h := chacha.Back(a, b, c, d)
		if [4]int{e, f, g, h} != [4]int{v[0] & lastOne, v[1] & lastOne, v[2] & lastOne, v[3] & lastOne} {
			t.Errorf("%x: back at %x %x %x %x", v, e, f, g, h)
		}
		a, b, c, d = chacha.Back(v[0], v[1], v[2], v[3])
		e, f, g, h = chacha.Quarter(a, b, c, d)
		if [4]int{e, f, g, h} != [4]int{v[0] & lastOne, v[1] & lastOne, v[2] & lastOne, v[3] & lastOne} {
			t.Errorf("%x: forth at %x %x %x %x", v, e, f, g, h)
		}
		if min(a, b, c, d) < 0 || max(a, b, c, d) > lastOne {
			t.Errorf("%x: out of range", v)
		}
	}
}

// 4.2
func TestBlock(t *testing.T) {
	s, e := chacha.Block(raw(rfcKey), raw("000000090000004a00000000"), 1)
	want := raw("10f1e7e4d13b5915500fdd1fa32071c4c7d1f4c733c068030422aa9ac3d46c4ed2826446079faa0914c2d705d98b02a2b5129cd1de164eb9cbd083e8a2503c4e")
	if s != want || e != api.OK {
		t.Errorf("%x %d", s, e)
	}
	s, e = chacha.Block(strings.Repeat("\x00", 32), strings.Repeat("\x00", 12), 0)
	want = raw("76b8e0ada0f13d90405d6ae55386bd28bdd219b8a08ded1aa836efcc8b770dc7da41597c5157488d7724e03fb8d84a376a43b8f41518a11cc387b669b2ee6586")
	if s != want || e != api.OK {
		t.Errorf("%x %d", s, e)
	}
	s, e = chacha.Block(strings.Repeat("\x00", 32), strings.Repeat("\x00", 11)+"\x02", 0)
	want = raw("c2c64d378cd536374ae204b9ef933fcd1a8b2288b3dfa49672ab765b54ee27c78a970e0e955c14f3a88e741b97c286f75f8fc299e8148362fa198a39531bed6d")
	if s != want || e != api.OK {
		t.Errorf("%x %d", s, e)
	}
}

// 4.2
func TestXOR(t *testing.T) {
	text := "Ladies and Gentlemen of the class of '99: If I could offer you only one tip for the future, sunscreen would be it."
	s, e := chacha.XOR(raw(rfcKey), raw("000000000000004a00000000"), 1, text)
	want := raw("6e2e359a2568f98041ba0728dd0d6981e97e7aec1d4360c20a27afccfd9fae0bf91b65c5524733ab8f593dabcd62b3571639d624e65152ab8f530c359f0861d807ca0dbf500d6a6156a38e088a22b65e52bc514d16ccf806818ce91ab77937365af90bbf74a35be6b40b8eedf2785e42874d")
	if s != want || e != api.OK {
		t.Errorf("%x %d", s, e)
	}
	key, nonce := raw(rfcKey), "twelve bytes"
	stream := ""
	for i := range 5 {
		b, _ := chacha.Block(key, nonce, 7+i)
		stream += b
	}
	for n := range len(stream) + 1 {
		if s, e := chacha.XOR(key, nonce, 7, strings.Repeat("\x00", n)); s != stream[:n] || e != api.OK {
			t.Errorf("%d zeros: %d", n, e)
		}
	}
}

// 4.2
func TestErrors(t *testing.T) {
	key, nonce := strings.Repeat("k", 32), strings.Repeat("n", 12)
	for _, x := range []struct {
		key, nonce string
		counter, n int
		block, xor api.Errno
	}{
		{key, nonce, 0, 10, api.OK, api.OK},
		{key[1:], nonce, 0, 10, api.ErrArg, api.ErrArg},
		{key + "k", nonce, 0, 0, api.ErrArg, api.ErrArg},
		{"", nonce, 0, 0, api.ErrArg, api.ErrArg},
		{key, nonce[1:], 0, 10, api.ErrArg, api.ErrArg},
		{key, nonce + "n", 0, 10, api.ErrArg, api.ErrArg},
		{key, nonce, -1, 10, api.ErrArg, api.ErrArg},
		{key, nonce, math.MinInt, 0, api.ErrArg, api.ErrArg},
		{key, nonce, lastOne, 0, api.OK, api.OK},
		{key, nonce, lastOne, 64, api.OK, api.OK},
		{key, nonce, lastOne, 65, api.OK, api.ErrRange},
		{key, nonce, lastOne - 1, 128, api.OK, api.OK},
		{key, nonce, lastOne - 1, 129, api.OK, api.ErrRange},
		{key, nonce, lastOne + 1, 0, api.ErrArg, api.ErrArg},
		{key, nonce, lastOne + 1, 300, api.ErrArg, api.ErrArg},
		{key, nonce, math.MaxInt, 300, api.ErrArg, api.ErrArg},
	} {
		s, e := chacha.Block(x.key, x.nonce, x.counter)
		if e != x.block || e == api.OK && len(s) != 64 || e != api.OK && s != "" {
			t.Errorf("Block with %d, %d, %d: %x %d", len(x.key), len(x.nonce), x.counter, s, e)
		}
		s, e = chacha.XOR(x.key, x.nonce, x.counter, strings.Repeat("x", x.n))
		if e != x.xor || e == api.OK && len(s) != x.n || e != api.OK && s != "" {
			t.Errorf("XOR with %d, %d, %d, %d: %x %d", len(x.key), len(x.nonce), x.counter, x.n, s, e)
		}
	}
}

// 4.3
func TestConsequences(t *testing.T) {
	key, nonce := raw(rfcKey), "nnnnnnnnnnnn"
	text := strings.Repeat("all of this, and more of it; ", 20)
	s, _ := chacha.XOR(key, nonce, 5, text)
	if s == text {
		t.Error("unchanged")
	}
	if again, e := chacha.XOR(key, nonce, 5, s); again != text || e != api.OK {
		t.Error("twice")
	}
	for blocks := 1; blocks < 9; blocks++ {
		if rest, e := chacha.XOR(key, nonce, 5+blocks, text[64*blocks:]); rest != s[64*blocks:] || e != api.OK {
			t.Errorf("from block %d on", blocks)
		}
	}
}
