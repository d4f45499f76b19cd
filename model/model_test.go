package model_test

import (
	"slices"
	"strings"
	"testing"

	"sledge/api"
	"sledge/archive"
	"sledge/bitset"
	"sledge/header"
	"sledge/model"
	"sledge/packet"
	"sledge/world"
)

func noise(n, seed int) string {
	b := make([]byte, n)
	x := n + seed
	for i := range b {
		x = x*6364136223846793005 + 1442695040888963407
		b[i] = byte(x >> 40)
	}
	return string(b)
}

func packed(t *testing.T, id, n int) api.Archive {
	t.Helper()
	a, e := archive.Pack("secret", world.Salt(id), id, api.File{Path: "f", Data: noise(n*192-20, id)})
	if e != api.OK || a.Head.N != n {
		t.Fatal(e, a.Head.N)
	}
	return a
}

func set(n int, l ...int) bitset.Set {
	s := bitset.New(n)
	for _, i := range l {
		s = s.With(i)
	}
	return s
}

func opened(a api.Archive, l ...int) model.Open {
	o := model.Open{Head: a.Head, Got: set(a.Head.N, l...)}
	for _, i := range l {
		o.Blocks = append(o.Blocks, a.Blocks[i])
	}
	return o
}

func changed(o model.Open, f func(o *model.Open)) model.Open {
	o.Blocks = slices.Clone(o.Blocks)
	f(&o)
	return o
}

// 33.2
func TestSound(t *testing.T) {
	a, b, c := packed(t, 1, 4), packed(t, 2, 3), packed(t, 3, 2)
	other := packed(t, 1, 3)
	damaged := api.Archive{Head: a.Head, Blocks: slices.Clone(a.Blocks)}
	damaged.Blocks[2] = strings.Repeat("x", 224)
	short := api.Archive{Head: a.Head, Blocks: a.Blocks[:2]}
	all := []api.Archive{a, b, c}
	good := opened(a, 0, 2)
	type archives = []api.Archive
	type opens = []model.Open
	for i, x := range []struct {
		s model.State
		e api.Errno
	}{
		{model.State{}, api.OK}, {model.State{Packed: all}, api.OK}, {model.State{Packed: all, Kept: archives{c, a}, Open: opens{opened(b, 1)}}, api.OK}, {model.State{Packed: all, Open: opens{opened(b), good, opened(c, 0, 1)}}, api.OK},
		{model.State{Kept: archives{a}}, api.ErrNone}, {model.State{Packed: archives{b, c}, Kept: archives{a}}, api.ErrNone}, {model.State{Packed: all, Kept: archives{other}}, api.ErrRoot}, {model.State{Packed: all, Kept: archives{b, damaged}}, api.ErrRoot},
		{model.State{Packed: archives{a, b}, Kept: archives{damaged, c}}, api.ErrRoot}, {model.State{Packed: archives{a, b}, Kept: archives{c, damaged}}, api.ErrNone},
		{model.State{Packed: archives{a, other}, Kept: archives{a}}, api.OK}, {model.State{Packed: archives{other, a}, Kept: archives{a}}, api.ErrRoot}, {model.State{Packed: archives{a, other}, Open: opens{good}}, api.OK}, {model.State{Packed: archives{other, a}, Open: opens{good}}, api.ErrRoot},
		{model.State{Open: opens{good}}, api.ErrNone}, {model.State{Packed: archives{b}, Open: opens{opened(b), good}}, api.ErrNone}, {model.State{Packed: archives{b}, Open: opens{good, changed(opened(b), func(o *model.Open) { o.Head.Raw++ })}}, api.ErrNone},
		{model.State{Packed: archives{b}, Kept: archives{a}, Open: opens{changed(opened(b), func(o *model.Open) { o.Head.Raw++ })}}, api.ErrNone}, {model.State{Packed: archives{b, a}, Kept: archives{damaged}, Open: opens{opened(c)}}, api.ErrRoot},
		{model.State{Packed: all, Open: opens{changed(good, func(o *model.Open) { o.Head.Tag = "" })}}, api.ErrRoot}, {model.State{Packed: all, Open: opens{changed(good, func(o *model.Open) { o.Got = set(5, 0, 2) })}}, api.ErrRoot}, {model.State{Packed: all, Open: opens{changed(good, func(o *model.Open) { o.Got = set(3, 0, 2) })}}, api.ErrRoot},
		{model.State{Packed: all, Open: opens{changed(good, func(o *model.Open) { o.Got = set(4, 0, 1) })}}, api.ErrRoot}, {model.State{Packed: all, Open: opens{changed(good, func(o *model.Open) { o.Got = set(4, 0) })}}, api.ErrRoot}, {model.State{Packed: all, Open: opens{changed(good, func(o *model.Open) { o.Blocks = o.Blocks[:1] })}}, api.ErrRoot},
		{model.State{Packed: all, Open: opens{changed(good, func(o *model.Open) { o.Blocks = append(o.Blocks, a.Blocks[3]) })}}, api.ErrRoot}, {model.State{Packed: all, Open: opens{changed(good, func(o *model.Open) { o.Blocks[1] = a.Blocks[3] })}}, api.ErrRoot}, {model.State{Packed: all, Open: opens{changed(good, func(o *model.Open) { o.Blocks[0], o.Blocks[1] = o.Blocks[1], o.Blocks[0] })}}, api.ErrRoot},
		{model.State{Packed: all, Open: opens{opened(b), changed(good, func(o *model.Open) { o.Blocks[1] = "" })}}, api.ErrRoot}, {model.State{Packed: archives{short}, Open: opens{good}}, api.ErrRoot}, {model.State{Packed: archives{short}, Open: opens{opened(a, 1)}}, api.OK},
	} {
		if e := model.Sound(x.s); e != x.e {
			t.Errorf("state %d: %d, not %d", i, e, x.e)
		}
	}
}

// 33.3
func TestFollows(t *testing.T) {
	a, b, c := packed(t, 1, 4), packed(t, 2, 3), packed(t, 3, 2)
	other := packed(t, 1, 3)
	damaged := api.Archive{Head: a.Head, Blocks: slices.Clone(a.Blocks)}
	damaged.Blocks[2] = strings.Repeat("x", 224)
	type archives = []api.Archive
	type opens = []model.Open
	state := func(packed, kept archives, open ...model.Open) model.State {
		return model.State{Packed: packed, Kept: kept, Open: open}
	}
	for i, x := range []struct {
		a, b        model.State
		e, afterOne api.Errno
	}{
		{model.State{}, model.State{}, api.OK, api.OK}, {model.State{}, state(archives{a, b}, archives{a}, opened(b)), api.OK, api.OK}, {state(archives{a}, nil), state(archives{a, b}, nil), api.OK, api.OK},
		{state(archives{a, b}, nil), state(archives{a}, nil), api.ErrRange, api.ErrRange}, {state(archives{a, b}, nil), state(archives{b, a}, nil), api.ErrRange, api.ErrRange}, {state(archives{a}, nil), state(archives{damaged}, nil), api.ErrRange, api.ErrRange},
		{state(nil, archives{a, b}), state(nil, archives{c, b, a}), api.OK, api.OK}, {state(nil, archives{a, b}), state(nil, archives{a}), api.ErrNone, api.ErrNone}, {state(nil, archives{a}), state(nil, archives{damaged}), api.ErrRoot, api.ErrRoot}, {state(nil, archives{b, a}), state(nil, archives{other, b}), api.ErrRoot, api.ErrRoot},
		{state(nil, archives{a, b}), state(nil, archives{damaged}), api.ErrRoot, api.ErrRoot}, {state(nil, archives{b, a}), state(nil, archives{damaged}), api.ErrNone, api.ErrNone}, {state(nil, archives{a}), state(nil, archives{a, other}), api.OK, api.OK}, {state(nil, archives{a}), state(nil, archives{other, a}), api.ErrRoot, api.ErrRoot},
		{state(archives{b}, archives{a}), state(nil, nil), api.ErrNone, api.ErrNone}, {state(archives{b}, nil, opened(a)), state(nil, nil), api.ErrRange, api.ErrRange},
		{state(nil, nil, opened(a, 0, 1)), state(nil, nil, opened(a, 0, 1)), api.OK, api.OK}, {state(nil, nil, opened(a, 0, 1)), state(nil, nil, opened(b), opened(a, 0, 1, 3)), api.OK, api.OK}, {state(nil, nil, opened(a, 0, 1)), state(nil, nil, opened(a, 0, 3)), api.ErrState, api.OK}, {state(nil, nil, opened(a, 0, 1)), state(nil, nil, opened(a)), api.ErrState, api.OK},
		{state(nil, nil, opened(a)), state(nil, nil), api.ErrState, api.ErrState}, {state(nil, nil, opened(a)), state(nil, nil, opened(other)), api.ErrState, api.ErrState}, {state(nil, nil, opened(a)), state(nil, nil, opened(b)), api.ErrState, api.ErrState}, {state(nil, nil, opened(a, 1)), state(nil, nil, opened(other), opened(a, 1)), api.OK, api.OK},
		{state(nil, nil, opened(a, 1)), state(nil, nil, opened(a), opened(a, 1)), api.ErrState, api.OK}, {state(nil, nil, opened(a, 1)), state(nil, nil, opened(a, 1), opened(a)), api.OK, api.OK},
		{state(nil, nil, opened(a, 0, 1)), state(nil, archives{a}), api.OK, api.OK}, {state(nil, nil, opened(a, 0, 1)), state(nil, archives{other}), api.OK, api.OK}, {state(nil, nil, opened(a, 0, 1), opened(b, 1)), state(nil, archives{a}, opened(b)), api.ErrState, api.OK},
	} {
		if e := model.Follows(x.a, x.b, false); e != x.e {
			t.Errorf("states %d: %d, not %d", i, e, x.e)
		}
		if e := model.Follows(x.a, x.b, true); e != x.afterOne {
			t.Errorf("states %d, after a crash: %d, not %d", i, e, x.afterOne)
		}
	}
}

func made(t *testing.T, n int, fair api.Fair) *world.World {
	t.Helper()
	w, e := world.New(world.Config{Secret: "secret", From: n, To: n, Fair: fair})
	if e != api.OK {
		t.Fatal(e)
	}
	return w
}

func pack(n, seed int) api.Step {
	return api.Step{Kind: api.Pack, Files: []api.File{{Path: "f", Data: noise(n*192-20, seed)}}}
}

// 33.1
func TestOf(t *testing.T) {
	w := made(t, 60, api.Fair{})
	w.Do(api.Step{Kind: api.Pack, Files: []api.File{{Path: "a", Data: "x"}}})
	for range 6 {
		w.Do(api.Step{Kind: api.Tick})
	}
	s, ok := model.Of(w)
	if !ok || len(s.Packed) != 1 || len(s.Kept) != 1 || len(s.Open) != 0 || !archive.Same(s.Packed[0], s.Kept[0]) || model.Sound(s) != api.OK {
		t.Error("the example", s)
	}
	w.Do(pack(12, 1))
	for range 4 {
		w.Do(api.Step{Kind: api.Tick})
	}
	s, ok = model.Of(w)
	if !ok || len(s.Packed) != 2 || len(s.Kept) != 1 || len(s.Open) != 1 || s.Open[0].Head != s.Packed[1].Head || s.Open[0].Got != set(12, 0, 1, 2, 3, 4, 5, 6, 7) || !slices.Equal(s.Open[0].Blocks, s.Packed[1].Blocks[:8]) || model.Sound(s) != api.OK {
		t.Error("in progress", s.Open)
	}
	w.Do(api.Step{Kind: api.FuseR})
	w.Do(api.Step{Kind: api.Tick})
	w.Do(api.Step{Kind: api.Tick})
	if s, ok := model.Of(w); ok || len(s.Packed)+len(s.Kept)+len(s.Open) > 0 {
		t.Error("the receiver is down")
	}
	if s, ok := model.Of(nil); ok || len(s.Packed)+len(s.Kept)+len(s.Open) > 0 {
		t.Error("nil")
	}
}

type source int

func (x *source) below(n int) int {
	*x = *x*6364136223846793005 + 1442695040888963407
	return (int(*x) >> 33 & 0xffffff) % n
}

// 33.4
func TestWorlds(t *testing.T) {
	for seed := range 30 {
		x := source(seed)
		w := made(t, 70, api.Fair{K: x.below(3), D: x.below(4)})
		forged := packed(t, 1, 3)
		text, _ := header.Put(forged.Head)
		offer, _ := packet.Put(api.Packet{Kind: api.Offer, From: 9, Text: text})
		injecting := seed%2 == 1
		last, crashed := model.State{}, false
		for step := range 250 {
			switch k := x.below(20); {
			case k < 5:
				w.Do(api.Step{Kind: api.Fated, Fate: api.Fate{Drop: x.below(2) > 0, Delay: x.below(9), Copies: x.below(4)}})
			case k == 6:
				w.Do(pack(1+x.below(12), seed+step))
			case k == 7:
				w.Do(api.Step{Kind: api.FuseS + x.below(2), N: x.below(12)})
			case k == 8:
				w.Do(api.Step{Kind: api.CrashS, N: x.below(1 << 20)})
			case k == 9:
				w.Do(api.Step{Kind: api.CrashR, N: x.below(1 << 20)})
				crashed = true
			case k == 10 && injecting:
				block, _ := packet.Put(api.Packet{Kind: api.Data, From: 9, ID: 1, I: x.below(3), Text: forged.Blocks[x.below(3)], Proof: nil})
				w.Do(api.Step{Kind: api.Inject, N: x.below(2), Text: []string{offer, block, "x"}[x.below(3)]})
			default:
				w.Do(api.Step{Kind: api.Tick})
			}
			s, ok := model.Of(w)
			if !ok {
				continue
			}
			if e := model.Sound(s); e != api.OK && !injecting {
				t.Fatalf("seed %d, step %d: not sound, %d", seed, step, e)
			}
			if e := model.Follows(last, s, crashed); e != api.OK {
				t.Fatalf("seed %d, step %d: does not follow, %d", seed, step, e)
			}
			last, crashed = s, false
		}
	}
}
