package block_test

import (
	"math"
	"strings"
	"testing"

	"sledge/api"
	"sledge/block"
	"sledge/chacha"
	"sledge/kdf"
	"sledge/mac"
)

var keys = kdf.Keys("secret", "salt")

func chunk(i int) string {
	b := make([]byte, 192)
	for j := range b {
		b[j] = byte(i*j + j*j)
	}
	return string(b)
}

func plain(k api.Keys, i int, c string) string {
	s, _ := chacha.XOR(k.Enc, "SLDG\x00\x00\x00\x00\x00\x00\x00"+string([]byte{byte(i)}), 1, c)
	return s + mac.Tag(k.Mac, "\x00\x00\x00"+string([]byte{byte(i)})+s)
}

// 14.1, 14.2
func TestSealAndOpen(t *testing.T) {
	for i := range 256 {
		c := chunk(i)
		s, e := block.Seal(keys, i, c)
		if s != plain(keys, i, c) || e != api.OK || len(s) != block.Size || block.Size != 224 {
			t.Errorf("block %d: %d bytes, %d", i, len(s), e)
		}
		if got, e := block.Open(keys, i, s); got != c || e != api.OK {
			t.Errorf("chunk %d: %d", i, e)
		}
		for _, j := range []int{i - 1, i + 1, i ^ 128} {
			want := api.ErrTag
			if j < 0 || j > 255 {
				want = api.ErrArg
			}
			if got, e := block.Open(keys, j, s); got != "" || e != want {
				t.Errorf("block %d as %d: %d", i, j, e)
			}
		}
	}
	for _, k := range []api.Keys{{Enc: keys.Enc}, {Enc: keys.Enc, Mac: strings.Repeat("m", 100)}} {
		s, e := block.Seal(k, 3, chunk(3))
		if s != plain(k, 3, chunk(3)) || e != api.OK {
			t.Errorf("another key for tags: %d", e)
		}
		if got, e := block.Open(k, 3, s); got != chunk(3) || e != api.OK {
			t.Errorf("another key for tags: %d", e)
		}
	}
}

// 14.1
func TestErrors(t *testing.T) {
	c := chunk(1)
	short, long := keys, keys
	short.Enc = keys.Enc[1:]
	long.Enc += "x"
	for i, x := range []struct {
		k          api.Keys
		i, n       int
		seal, open api.Errno
	}{
		{keys, 0, 191, api.ErrArg, api.ErrForm}, {keys, 0, 193, api.ErrArg, api.ErrForm}, {keys, 255, 0, api.ErrArg, api.ErrForm},
		{keys, -1, 192, api.ErrArg, api.ErrArg}, {keys, 256, 192, api.ErrArg, api.ErrArg}, {keys, math.MaxInt, 192, api.ErrArg, api.ErrArg}, {keys, math.MinInt, 191, api.ErrArg, api.ErrArg},
		{short, 0, 192, api.ErrArg, api.ErrArg}, {long, 0, 192, api.ErrArg, api.ErrArg}, {api.Keys{}, 0, 100, api.ErrArg, api.ErrArg},
	} {
		text := (c + c)[:x.n]
		if s, e := block.Seal(x.k, x.i, text); s != "" || e != x.seal {
			t.Errorf("Seal, case %d: %d", i, e)
		}
		if s, e := block.Open(x.k, x.i, text+strings.Repeat("t", 32)); s != "" || e != x.open {
			t.Errorf("Open, case %d: %d", i, e)
		}
	}
}

// 14.2
func TestChangedBlocks(t *testing.T) {
	s, _ := block.Seal(keys, 9, chunk(9))
	for i := range len(s) {
		b := []byte(s)
		b[i] ^= 1 << (i % 8)
		if got, e := block.Open(keys, 9, string(b)); got != "" || e != api.ErrTag {
			t.Errorf("byte %d changed: %d", i, e)
		}
	}
	other := kdf.Keys("other", "salt")
	if got, e := block.Open(other, 9, s); got != "" || e != api.ErrTag {
		t.Errorf("other keys: %d", e)
	}
	for _, x := range []string{"", s[1:], s[:223], s + "\x00"} {
		if got, e := block.Open(keys, 9, x); got != "" || e != api.ErrForm {
			t.Errorf("%d bytes: %d", len(x), e)
		}
	}
}
