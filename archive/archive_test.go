package archive_test

import (
	"math"
	"slices"
	"strings"
	"testing"

	"sledge/api"
	"sledge/archive"
	"sledge/block"
	"sledge/clash"
	"sledge/filemap"
	"sledge/flate"
	"sledge/header"
	"sledge/kdf"
	"sledge/merkle"
	"sledge/solid"
)

const salt = "0123456789abcdef"

func f(p, data string) api.File { return api.File{Path: p, Data: data} }

func noise(n int) string {
	b := make([]byte, n)
	x := n
	for i := range b {
		x = x*6364136223846793005 + 1442695040888963407
		b[i] = byte(x >> 40)
	}
	return string(b)
}

var lists = [][]api.File{
	nil, {f("a", "x")}, {f("b", "x"), f("a", "yy"), f("c/d", "")}, {f("dir/file", strings.Repeat("text ", 500)), f("dir/other", noise(300))}, {f("noise", noise(5000))},
}

func pack(t *testing.T, l ...api.File) api.Archive {
	t.Helper()
	a, e := archive.Pack("secret", salt, 1, l...)
	if e != api.OK {
		t.Fatal(e)
	}
	return a
}

// 19.1
func TestRoot(t *testing.T) {
	var blocks, sums []string
	for i := range 20 {
		if got := archive.Root(blocks...); got != merkle.Root(32, sums...) {
			t.Errorf("%d blocks: %x", i, got)
		}
		b := noise(224 + i)
		blocks = append(blocks, b)
		sums = append(sums, merkle.Leaf(32, b))
	}
}

// 19.1
func TestPack(t *testing.T) {
	for i, l := range lists {
		keep := slices.Clone(l)
		a, e := archive.Pack("secret", salt, 9+i, l...)
		stream, raw, _ := solid.Squeeze(l...)
		k := kdf.Keys("secret", salt)
		var blocks []string
		for j, c := range solid.Split(stream) {
			b, _ := block.Seal(k, j, c)
			blocks = append(blocks, b)
		}
		want := header.Sign(k.Head, api.Header{ID: 9 + i, Salt: salt, N: len(blocks), Bytes: len(stream), Raw: raw, Root: archive.Root(blocks...)})
		if a.Head != want || !slices.Equal(a.Blocks, blocks) || e != api.OK || !slices.Equal(keep, l) {
			t.Errorf("list %d: %+v %d", i, a.Head, e)
		}
	}
	for i, x := range []struct {
		salt string
		id   int
		l    []api.File
		e    api.Errno
	}{
		{salt, 1, nil, api.OK}, {salt, 1<<32 - 1, nil, api.OK}, {salt, 0, nil, api.ErrArg}, {salt, -1, nil, api.ErrArg}, {salt, 1 << 32, nil, api.ErrArg}, {salt, math.MinInt, nil, api.ErrArg},
		{salt[1:], 1, nil, api.ErrArg}, {salt + "x", 1, nil, api.ErrArg}, {"", 1, []api.File{f("../a", "")}, api.ErrArg}, {salt, 0, []api.File{f("../a", "")}, api.ErrArg},
		{salt, 1, []api.File{f("../a", "")}, api.ErrPath}, {salt, 1, []api.File{f("a", ""), f("a", "")}, api.ErrDup}, {salt, 1, []api.File{f("a", noise(60000))}, api.ErrFull},
	} {
		a, e := archive.Pack("secret", x.salt, x.id, x.l...)
		if e != x.e || e != api.OK && (a.Head != (api.Header{}) || len(a.Blocks) > 0) {
			t.Errorf("case %d: %d", i, e)
		}
	}
}

// 19.2, 19.4
func TestExtract(t *testing.T) {
	for i, l := range lists {
		a := pack(t, l...)
		if e := archive.Check("secret", a); e != api.OK {
			t.Errorf("list %d: %d", i, e)
		}
		got, e := archive.Extract("secret", a)
		if !slices.Equal(got, filemap.Sort(l...)) || e != api.OK {
			t.Errorf("list %d: %d", i, e)
		}
		if got, e := archive.Extract("other", a); len(got) > 0 || e != api.ErrTag || archive.Check("other", a) != api.ErrTag {
			t.Errorf("list %d, another secret: %d", i, e)
		}
	}
	if got, e := archive.Extract("secret", pack(t, f("a", "x"))); !slices.Equal(got, []api.File{f("a", "x")}) || e != api.OK {
		t.Error(got, e)
	}
}

// sealed makes an archive of any stream, with a right tag.
func sealed(stream string, bytes, raw int) api.Archive {
	k := kdf.Keys("secret", salt)
	a := api.Archive{}
	for i, c := range solid.Split(stream) {
		b, _ := block.Seal(k, i, c)
		a.Blocks = append(a.Blocks, b)
	}
	return signed(api.Archive{Head: api.Header{ID: 5, Salt: salt, N: len(a.Blocks), Bytes: bytes, Raw: raw}, Blocks: a.Blocks})
}

func signed(a api.Archive) api.Archive {
	a.Head.Root = archive.Root(a.Blocks...)
	a.Head = header.Sign(kdf.Keys("secret", "").Head, a.Head)
	return a
}

// 19.2
func TestErrors(t *testing.T) {
	a := pack(t, f("noise", noise(700)))
	n := len(a.Blocks)
	with := func(change func(a *api.Archive)) api.Archive {
		b := api.Archive{Head: a.Head, Blocks: slices.Clone(a.Blocks)}
		change(&b)
		return b
	}
	otherSalt, _ := archive.Pack("secret", "fedcba9876543210", 1, f("noise", noise(700)))
	put, _ := filemap.Put(f("a", "x"))
	flat := flate.Pack(put)
	for i, x := range []struct {
		a              api.Archive
		check, extract api.Errno
	}{
		{a, api.OK, api.OK}, {api.Archive{}, api.ErrArg, api.ErrArg}, {with(func(a *api.Archive) { a.Head.ID = 0; a.Blocks = nil }), api.ErrArg, api.ErrArg},
		{with(func(a *api.Archive) { a.Head.ID = 2 }), api.ErrTag, api.ErrTag}, {with(func(a *api.Archive) { a.Head.Root = noise(32); a.Blocks = nil }), api.ErrTag, api.ErrTag},
		{with(func(a *api.Archive) { a.Blocks = a.Blocks[1:] }), api.ErrForm, api.ErrForm}, {with(func(a *api.Archive) { a.Blocks = append(a.Blocks, a.Blocks[0]) }), api.ErrForm, api.ErrForm},
		{with(func(a *api.Archive) { a.Blocks[n-1] = a.Blocks[n-1][1:] }), api.ErrForm, api.ErrForm}, {with(func(a *api.Archive) { a.Blocks[0] += "x"; a.Blocks[1] = noise(224) }), api.ErrForm, api.ErrForm},
		{with(func(a *api.Archive) { a.Blocks[n-1] = noise(224) }), api.ErrRoot, api.ErrRoot}, {with(func(a *api.Archive) { a.Blocks[0], a.Blocks[1] = a.Blocks[1], a.Blocks[0] }), api.ErrRoot, api.ErrRoot},
		{signed(with(func(a *api.Archive) { a.Blocks[2] = noise(224) })), api.OK, api.ErrTag}, {signed(with(func(a *api.Archive) { a.Blocks[0], a.Blocks[1] = a.Blocks[1], a.Blocks[0] })), api.OK, api.ErrTag},
		{signed(with(func(a *api.Archive) { a.Blocks = slices.Clone(otherSalt.Blocks) })), api.OK, api.ErrTag},
		{sealed(flat, len(flat), len(put)), api.OK, api.OK}, {sealed(flat, len(flat)-1, len(put)), api.OK, api.ErrForm}, {sealed(flat, len(flat)+1, len(put)), api.OK, api.ErrForm},
		{sealed(flat, len(flat), len(put)-1), api.OK, api.ErrLimit}, {sealed(flat, len(flat), len(put)+1), api.OK, api.ErrForm}, {sealed("\x07", 1, 1), api.OK, api.ErrForm},
		{sealed(flate.Pack("\x01\x01/\x00"), len(flate.Pack("\x01\x01/\x00")), 4), api.OK, api.ErrPath},
	} {
		if e := archive.Check("secret", x.a); e != x.check {
			t.Errorf("Check, case %d: %d", i, e)
		}
		l, e := archive.Extract("secret", x.a)
		if e != x.extract || e != api.OK && len(l) > 0 {
			t.Errorf("Extract, case %d: %d", i, e)
		}
	}
}

// 19.3
func TestPutAndTake(t *testing.T) {
	for i, l := range lists {
		a := pack(t, l...)
		s, e := archive.Put(a)
		h, _ := header.Put(a.Head)
		if s != h+strings.Join(a.Blocks, "") || e != api.OK {
			t.Errorf("list %d: %d", i, e)
		}
		got, e := archive.Take(s)
		if !archive.Same(got, a) || e != api.OK {
			t.Errorf("list %d: %d", i, e)
		}
		for _, x := range []string{"", s[:97], s[:98], s[:len(s)-1], s + "x", s + a.Blocks[0], s[:len(s)-224], s[1:], "SLG2" + s[4:]} {
			if got, e := archive.Take(x); e != api.ErrForm || got.Head != (api.Header{}) || len(got.Blocks) > 0 {
				t.Errorf("list %d, %d bytes: %d", i, len(x), e)
			}
		}
	}
	a := pack(t, lists[4]...)
	for i, x := range []struct {
		head   api.Header
		blocks []string
		e      api.Errno
	}{
		{api.Header{}, a.Blocks, api.ErrArg}, {a.Head, nil, api.ErrForm}, {a.Head, a.Blocks[1:], api.ErrForm}, {a.Head, append(slices.Clone(a.Blocks[1:]), ""), api.ErrForm}, {api.Header{ID: 1}, nil, api.ErrArg},
		{a.Head, append(slices.Clone(a.Blocks[1:]), noise(225)), api.ErrForm}, {a.Head, append(slices.Clone(a.Blocks[1:]), noise(224)), api.OK},
	} {
		s, e := archive.Put(api.Archive{Head: x.head, Blocks: x.blocks})
		if e != x.e || e != api.OK && s != "" {
			t.Errorf("case %d: %d", i, e)
		}
	}
}

// 19.3
func TestSame(t *testing.T) {
	a, b := pack(t, lists[4]...), pack(t, lists[4]...)
	if !archive.Same(a, b) || !archive.Same(api.Archive{}, api.Archive{Blocks: []string{}}) {
		t.Error("equal ones")
	}
	for i, change := range []func(a *api.Archive){
		func(a *api.Archive) { a.Head.ID++ }, func(a *api.Archive) { a.Head.Salt = "" }, func(a *api.Archive) { a.Head.N++ }, func(a *api.Archive) { a.Head.Bytes++ }, func(a *api.Archive) { a.Head.Raw++ },
		func(a *api.Archive) { a.Head.Root = "" }, func(a *api.Archive) { a.Head.Tag = "" }, func(a *api.Archive) { a.Blocks = a.Blocks[1:] }, func(a *api.Archive) { a.Blocks[3] = "" }, func(a *api.Archive) { a.Blocks = append(a.Blocks, "") },
	} {
		c := api.Archive{Head: b.Head, Blocks: slices.Clone(b.Blocks)}
		change(&c)
		if archive.Same(a, c) || archive.Same(c, a) {
			t.Errorf("change %d", i)
		}
	}
}

// 19.4
func TestChangedBytes(t *testing.T) {
	a := pack(t, lists[3]...)
	s, _ := archive.Put(a)
	for i := range len(s) {
		b := []byte(s)
		b[i] ^= 1 << (i % 8)
		got, e := archive.Take(string(b))
		if e != api.OK {
			continue
		}
		if archive.Check("secret", got) == api.OK {
			if _, _, ok := clash.Leaves(32, got.Blocks, a.Blocks); !ok {
				t.Errorf("byte %d changed", i)
			}
		}
	}
}
