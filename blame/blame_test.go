package blame_test

import (
	"slices"
	"strings"
	"testing"

	"sledge/api"
	"sledge/archive"
	"sledge/blame"
	"sledge/header"
	"sledge/kdf"
	"sledge/merkle"
	"sledge/packet"
	"sledge/world"
)

const salt = "0123456789abcdef"

func packed(t *testing.T, id int, data string) api.Archive {
	t.Helper()
	a, e := archive.Pack("secret", salt, id, api.File{Path: "f", Data: data})
	if e != api.OK {
		t.Fatal(e)
	}
	return a
}

func offer(h api.Header, from int) string {
	text, _ := header.Put(h)
	s, e := packet.Put(api.Packet{Kind: api.Offer, From: from, Text: text})
	if e != api.OK {
		panic(e)
	}
	return s
}

func data(a api.Archive, i int) string {
	var sums []string
	for _, b := range a.Blocks {
		sums = append(sums, merkle.Leaf(32, b))
	}
	p, _ := merkle.Proof(32, i, sums...)
	s, _ := packet.Put(api.Packet{Kind: api.Data, From: 5, ID: a.Head.ID, I: i, Text: a.Blocks[i], Proof: p})
	return s
}

// 34.1
func TestOf(t *testing.T) {
	a, b, forged := packed(t, 1, "a"), packed(t, 2, "b"), packed(t, 3, "forged")
	damaged := api.Archive{Head: a.Head, Blocks: []string{strings.Repeat("x", 224)}}
	first, second := offer(forged.Head, 9), offer(forged.Head, 4)
	done, _ := packet.Put(api.Packet{Kind: api.Done, From: 1, ID: 3, Text: forged.Head.Root})
	tagged := []api.Header{a.Head, b.Head}
	for i, x := range []struct {
		t      api.Trace
		packed []api.Archive
		kept   api.Archive
		want   blame.Witness
	}{
		{api.Trace{Tagged: tagged}, []api.Archive{a, b}, b, blame.Witness{}},
		{api.Trace{Tagged: tagged, Injected: []string{first}}, []api.Archive{a, b}, forged, blame.Witness{Kind: blame.Offer, A: first}},
		{api.Trace{Tagged: tagged, Injected: []string{"", "x", done, offer(a.Head, 9), second, first}}, []api.Archive{a, b}, forged, blame.Witness{Kind: blame.Offer, A: second}},
		{api.Trace{Tagged: tagged, Injected: []string{first + "x", offer(a.Head, 1)}}, []api.Archive{a, b}, forged, blame.Witness{}},
		{api.Trace{Tagged: tagged, Injected: []string{first}}, []api.Archive{a, b, forged}, forged, blame.Witness{}},
		{api.Trace{Tagged: append(tagged, forged.Head), Injected: []string{first}}, []api.Archive{a, b}, forged, blame.Witness{}},
		{api.Trace{Tagged: tagged, Injected: []string{offer(a.Head, 3)}}, []api.Archive{a, b}, damaged, blame.Witness{}},
		{api.Trace{Injected: []string{offer(a.Head, 3)}}, []api.Archive{b}, damaged, blame.Witness{Kind: blame.Offer, A: offer(a.Head, 3)}},
		{api.Trace{}, nil, api.Archive{}, blame.Witness{}},
	} {
		if w := blame.Of(x.t, x.packed, x.kept); w != x.want {
			t.Errorf("case %d: kind %d", i, w.Kind)
		}
	}
	if blame.None != 0 || blame.Offer != 1 || blame.Clash != 2 {
		t.Error("kinds")
	}
}

// 34.2
func TestValid(t *testing.T) {
	a, forged := packed(t, 1, "a"), packed(t, 3, "forged")
	wrong := forged.Head
	wrong.Tag = strings.Repeat("t", 32)
	tr := api.Trace{Tagged: []api.Header{a.Head}, Injected: []string{"x", offer(a.Head, 1), offer(forged.Head, 2), offer(wrong, 3), data(a, 0)}}
	for i, x := range []struct {
		w    blame.Witness
		want bool
	}{
		{blame.Witness{Kind: blame.Offer, A: offer(forged.Head, 2)}, true}, {blame.Witness{Kind: blame.Offer, A: offer(forged.Head, 2), B: "x"}, false}, {blame.Witness{Kind: blame.Offer, A: offer(forged.Head, 3)}, false}, {blame.Witness{Kind: blame.Offer, A: offer(a.Head, 1)}, false},
		{blame.Witness{Kind: blame.Offer, A: offer(wrong, 3)}, false}, {blame.Witness{Kind: blame.Offer, A: "x"}, false}, {blame.Witness{Kind: blame.Offer}, false}, {blame.Witness{Kind: blame.Offer, A: data(a, 0)}, false},
		{blame.Witness{}, false}, {blame.Witness{A: offer(forged.Head, 2)}, false}, {blame.Witness{Kind: 3, A: offer(forged.Head, 2)}, false}, {blame.Witness{Kind: -1, A: offer(forged.Head, 2)}, false},
		{blame.Witness{Kind: blame.Clash, A: "a", B: "b"}, false}, {blame.Witness{Kind: blame.Clash, A: "a", B: "a"}, false}, {blame.Witness{Kind: blame.Clash, A: offer(forged.Head, 2)}, false},
	} {
		if got := blame.Valid("secret", tr, x.w); got != x.want {
			t.Errorf("witness %d: %v", i, got)
		}
	}
	if blame.Valid("other", tr, blame.Witness{Kind: blame.Offer, A: offer(forged.Head, 2)}) {
		t.Error("another secret")
	}
}

// 34.3
func TestBytes(t *testing.T) {
	a, forged := packed(t, 1, "a"), packed(t, 3, "forged")
	put := func(a api.Archive) string { s, _ := archive.Put(a); return s }
	damaged := api.Archive{Head: forged.Head, Blocks: []string{strings.Repeat("x", 224)}}
	resigned := damaged
	resigned.Head.Root = archive.Root(damaged.Blocks...)
	resigned.Head = header.Sign(kdf.Keys("secret", "").Head, resigned.Head)
	other, _ := archive.Pack("other", salt, 3, api.File{Path: "f"})
	tr := api.Trace{Tagged: []api.Header{a.Head}, Injected: make([]string, 1, 9)}
	tr.Injected[0] = offer(a.Head, 1)
	for i, x := range []struct {
		s    string
		want blame.Witness
		e    api.Errno
	}{
		{put(a), blame.Witness{}, api.OK}, {put(forged), blame.Witness{Kind: blame.Offer, A: offer(forged.Head, 1)}, api.OK}, {"", blame.Witness{}, api.ErrForm}, {put(a) + "x", blame.Witness{}, api.ErrForm}, {"x" + put(a)[1:], blame.Witness{}, api.ErrForm},
		{put(damaged), blame.Witness{}, api.ErrRoot}, {put(resigned), blame.Witness{}, api.ErrTag}, {put(other), blame.Witness{}, api.ErrTag},
	} {
		if w, e := blame.Bytes("secret", tr, []api.Archive{a}, x.s); w != x.want || e != x.e {
			t.Errorf("case %d: kind %d, %d", i, w.Kind, e)
		}
		if len(tr.Injected) != 1 || tr.Injected[:2][1] != "" {
			t.Error("the trace was changed")
		}
	}
	tr.Injected[0] = offer(forged.Head, 7)
	if w, e := blame.Bytes("secret", tr, nil, put(forged)); w.A != offer(forged.Head, 7) || e != api.OK {
		t.Error("after all others", e)
	}
	tr.Tagged = append(tr.Tagged, forged.Head)
	if w, e := blame.Bytes("secret", tr, nil, put(forged)); w != (blame.Witness{}) || e != api.OK {
		t.Error("a header that was tagged", e)
	}
}

type source int

func (x *source) below(n int) int {
	*x = *x*6364136223846793005 + 1442695040888963407
	return (int(*x) >> 33 & 0xffffff) % n
}

// 34.4, T2: whatever is injected, what the receiver keeps was packed, or there is a valid witness.
func TestWorlds(t *testing.T) {
	blamed := 0
	for seed := range 30 {
		x := source(seed)
		w, e := world.New(world.Config{Secret: "secret", From: 60, To: 60})
		if e != api.OK {
			t.Fatal(e)
		}
		secret := []string{"secret", "other"}[seed%2]
		forged, _ := archive.Pack(secret, salt, 1+x.below(4), api.File{Path: "forged", Data: strings.Repeat("xyz", 99)})
		for range 200 {
			switch k := x.below(12); k {
			case 0:
				w.Do(api.Step{Kind: api.Pack, Files: []api.File{{Path: "f", Data: strings.Repeat("q", x.below(999))}}})
			case 1:
				w.Do(api.Step{Kind: api.CrashS + x.below(2), N: x.below(99)})
			case 2:
				w.Do(api.Step{Kind: api.Inject, Text: offer(forged.Head, 1+x.below(9))})
			case 3:
				w.Do(api.Step{Kind: api.Inject, Text: data(forged, x.below(forged.Head.N))})
			case 4:
				if l := w.Packed(); len(l) > 0 {
					a := l[x.below(len(l))]
					a.Blocks[0] = strings.Repeat("!", 224)
					w.Do(api.Step{Kind: api.Inject, Text: data(a, 0)})
				}
			default:
				w.Do(api.Step{Kind: api.Tick})
			}
		}
		tr, all := w.Trace(), w.Packed()
		for _, a := range w.Kept(api.ToReceiver) {
			same := slices.ContainsFunc(all, func(b api.Archive) bool { return archive.Same(a, b) })
			witness := blame.Of(tr, all, a)
			if same != (witness == blame.Witness{}) || !same && !blame.Valid("secret", tr, witness) {
				t.Errorf("seed %d: archive %d", seed, a.Head.ID)
			}
			if !same {
				blamed++
				if witness.Kind != blame.Offer || seed%2 == 1 {
					t.Errorf("seed %d: kind %d", seed, witness.Kind)
				}
			}
		}
	}
	if blamed == 0 {
		t.Error("nothing was forged")
	}
}
