package sender_test

import (
	"slices"
	"testing"

	"sledge/api"
	"sledge/archive"
	"sledge/bitset"
	"sledge/depot"
	"sledge/disk"
	"sledge/header"
	"sledge/merkle"
	"sledge/packet"
	"sledge/sender"
)

func noise(n, seed int) string {
	b := make([]byte, n)
	x := n + seed
	for i := range b {
		x = x*6364136223846793005 + 1442695040888963407
		b[i] = byte(x >> 40)
	}
	return string(b)
}

func packed(t *testing.T, id, n int) api.Archive {
	t.Helper()
	a, e := archive.Pack("secret", "0123456789abcdef", id, api.File{Path: "f", Data: noise(n*192-20, id)})
	if e != api.OK || a.Head.N != n {
		t.Fatal(e, a.Head.N)
	}
	return a
}

func keeping(t *testing.T, l ...api.Archive) (*depot.Depot, *disk.Disk) {
	t.Helper()
	d, _ := disk.New(600)
	p, e := depot.Open(d, "secret")
	for _, a := range l {
		if e == api.OK {
			e = p.Add("secret", a)
		}
	}
	if e != api.OK {
		t.Fatal(e)
	}
	return p, d
}

func set(n int, l ...int) bitset.Set {
	s := bitset.New(n)
	for _, i := range l {
		s = s.With(i)
	}
	return s
}

func ack(from, seq int, a api.Archive, l ...int) api.Packet {
	return api.Packet{Kind: api.Ack, From: from, Seq: seq, ID: a.Head.ID, I: a.Head.N, N: a.Head.N, Text: set(a.Head.N, l...).Put()}
}

func done(from, seq int, a api.Archive) api.Packet {
	return api.Packet{Kind: api.Done, From: from, Seq: seq, ID: a.Head.ID, Text: a.Head.Root}
}

// sent checks the packets of a tick: the offer, if there should be one, and the data of these blocks.
func sent(t *testing.T, s *sender.Sender, now, epoch int, a api.Archive, offer bool, blocks ...int) {
	t.Helper()
	got := s.Tick(now)
	var sums []string
	for _, b := range a.Blocks {
		sums = append(sums, merkle.Leaf(32, b))
	}
	if offer {
		text, _ := header.Put(a.Head)
		if len(got) == 0 || got[0].Kind != api.Offer || got[0].From != epoch || got[0].Text != text {
			t.Errorf("at %d: no offer", now)
			return
		}
		got = got[1:]
	}
	if len(got) != len(blocks) {
		t.Errorf("at %d: %d blocks, not %d", now, len(got), blocks)
		return
	}
	for k, p := range got {
		i := blocks[k]
		proof, _ := merkle.Proof(32, i, sums...)
		if p.Kind != api.Data || p.From != epoch || p.Seq != 0 || p.ID != a.Head.ID || p.I != i || p.N != 0 || p.Text != a.Blocks[i] || !slices.Equal(p.Proof, proof) {
			t.Errorf("at %d: block %d is another one, %d", now, i, p.I)
		}
		if packet.Check(p) != api.OK || merkle.Check(32, a.Head.Root, i, a.Head.N, merkle.Leaf(32, p.Text), p.Proof...) != api.OK {
			t.Errorf("at %d: block %d is not proved", now, i)
		}
	}
}

// 30.1, 30.2, 30.3
func TestOneArchive(t *testing.T) {
	a := packed(t, 5, 12)
	p, _ := keeping(t, a)
	s := sender.New(p)
	if s.Current() != 0 || len(s.Done()) > 0 || s.Acked() != (bitset.Set{}) || s.Flight() != (bitset.Set{}) {
		t.Error("new")
	}
	sent(t, s, 0, 1, a, true)
	if s.Current() != 5 || s.Acked() != (bitset.Set{}) || s.Flight() != (bitset.Set{}) {
		t.Error("offered")
	}
	sent(t, s, 1, 1, a, false)
	sent(t, s, 2, 1, a, true)
	sent(t, s, 5, 1, a, false)
	sent(t, s, 6, 1, a, true)
	if !s.Hear(ack(1, 1, a)) || s.Acked() != set(12) || s.Flight() != set(12) {
		t.Error("ack of nothing")
	}
	sent(t, s, 7, 1, a, false, 0, 1, 2, 3, 4, 5, 6, 7)
	sent(t, s, 8, 1, a, false)
	if !s.Hear(ack(1, 2, a, 1, 3)) || s.Acked() != set(12, 1, 3) || s.Flight() != set(12, 0, 2, 4, 5, 6, 7) {
		t.Error("ack")
	}
	sent(t, s, 9, 1, a, false, 0, 2, 4, 5, 6, 7, 8, 9)
	sent(t, s, 14, 1, a, true, 0, 2, 4, 5, 6, 7, 8, 9)
	if !s.Hear(ack(1, 3, a, 0, 1, 2, 3, 4, 5, 6, 7, 8, 9, 10, 11)) || s.Flight() != set(12) || s.Current() != 5 {
		t.Error("ack of all")
	}
	sent(t, s, 15, 1, a, false)
	sent(t, s, 30, 1, a, true)
	if !s.Hear(done(1, 4, a)) || s.Current() != 0 || !slices.Equal(s.Done(), []int{5}) || s.Acked() != (bitset.Set{}) || s.Flight() != (bitset.Set{}) {
		t.Error("done")
	}
	for now := 31; now < 99; now++ {
		if l := s.Tick(now); len(l) > 0 {
			t.Error("after the end", now)
		}
	}
	if s.Hear(done(1, 5, a)) || s.Hear(ack(1, 6, a)) {
		t.Error("an answer after the end")
	}
	s.Done()[0] = 99
	if !slices.Equal(s.Done(), []int{5}) {
		t.Error("shared")
	}
}

// 30.1, 30.2
func TestSeveral(t *testing.T) {
	a, b, c := packed(t, 9, 1), packed(t, 2, 3), packed(t, 4, 2)
	p, d := keeping(t, a, b)
	s := sender.New(p)
	sent(t, s, 50, 1, b, true)
	if !s.Hear(ack(3, 1, b)) {
		t.Error("ack")
	}
	if e := p.Add("secret", c); e != api.OK {
		t.Fatal(e)
	}
	sent(t, s, 51, 1, b, false, 0, 1, 2)
	if s.Hear(done(3, 2, a)) || s.Hear(done(3, 2, c)) || s.Current() != 2 {
		t.Error("another archive")
	}
	if !s.Hear(done(3, 2, b)) || s.Current() != 0 {
		t.Error("done")
	}
	sent(t, s, 52, 1, c, true)
	if s.Acked() != (bitset.Set{}) {
		t.Error("the window of another archive")
	}
	if s.Hear(done(3, 1, c)) || s.Hear(done(3, 2, c)) || s.Hear(done(2, 9, c)) || !s.Hear(done(3, 3, c)) {
		t.Error("answers that are not newer")
	}
	sent(t, s, 53, 1, a, true)
	if !s.Hear(done(4, 0, a)) || !slices.Equal(s.Done(), []int{2, 4, 9}) {
		t.Error("a newer epoch", s.Done())
	}
	if len(s.Tick(54)) > 0 {
		t.Error("nothing is left")
	}
	d.Crash(0)
	q, e := depot.Open(d, "secret")
	if e != api.OK {
		t.Fatal(e)
	}
	s = sender.New(q)
	d.Fuse(0)
	d.Sync()
	if len(s.Tick(0)) > 0 || s.Current() != 0 {
		t.Error("an archive that cannot be read")
	}
	d.Crash(0)
	sent(t, s, 1, 2, b, true)
	if len(s.Done()) > 0 {
		t.Error("a new sender has heard nothing")
	}
}

// 30.3
func TestHear(t *testing.T) {
	a := packed(t, 5, 4)
	p, _ := keeping(t, a)
	s := sender.New(p)
	none := api.Packet{Kind: api.Done, From: 1, Seq: 1}
	if s.Hear(ack(1, 1, a)) || s.Hear(done(1, 1, a)) || s.Hear(none) || len(s.Done()) > 0 {
		t.Error("before the offer")
	}
	s.Tick(0)
	change := func(p api.Packet, f func(p *api.Packet)) api.Packet { f(&p); return p }
	state := func() [2]bitset.Set { return [2]bitset.Set{s.Acked(), s.Flight()} }
	for i, x := range []struct {
		p  api.Packet
		ok bool
	}{
		{api.Packet{}, false}, {ack(0, 5, a), true}, {ack(0, 5, a, 1), false}, {ack(0, 4, a, 1), false}, {ack(-1, 9, a, 1), false}, {ack(0, 6, a, 2), true},
		{ack(2, 0, a, 0), true}, {ack(2, 0, a, 1), false}, {ack(1, 99, a, 1), false}, {ack(2, 1, a, 1), true}, {ack(2, 1, a), false}, {ack(5, 5, a, 0, 1, 2), true}, {ack(5, 6, a), true},
		{change(ack(6, 1, a, 1), func(p *api.Packet) { p.ID = 4 }), false}, {change(ack(6, 1, a, 1), func(p *api.Packet) { p.N = 3; p.Text = set(3, 1).Put() }), false}, {change(ack(6, 1, a, 1), func(p *api.Packet) { p.N = 5; p.Text = set(5, 1).Put() }), false},
		{change(ack(6, 1, a, 1), func(p *api.Packet) { p.Text = set(5, 4).Put() }), false}, {change(ack(6, 1, a, 1), func(p *api.Packet) { p.Text = "" }), false}, {change(ack(6, 1, a, 1), func(p *api.Packet) { p.Text += "x" }), false},
		{change(ack(6, 1, a, 1), func(p *api.Packet) { p.Kind = api.Offer }), false}, {change(ack(6, 1, a, 1), func(p *api.Packet) { p.Kind = api.Data }), false}, {change(ack(6, 1, a, 1), func(p *api.Packet) { p.Kind = 7 }), false},
		{change(done(6, 1, a), func(p *api.Packet) { p.Text = a.Head.Tag }), false}, {change(done(6, 1, a), func(p *api.Packet) { p.Text = "" }), false}, {change(done(6, 1, a), func(p *api.Packet) { p.ID = 6 }), false}, {change(done(6, 1, a), func(p *api.Packet) { p.Kind = api.Ack; p.N = 4 }), false},
		{ack(5, 7, a, 3), true}, {ack(6, 1, a, 1), true}, {done(6, 1, a), false}, {done(5, 100, a), false}, {done(6, 2, a), true}, {done(6, 3, a), false},
	} {
		before := state()
		if ok := s.Hear(x.p); ok != x.ok || !ok && state() != before {
			t.Errorf("packet %d: %v", i, ok)
		}
		if x.ok && x.p.Kind == api.Ack && s.Acked().Put() != x.p.Text {
			t.Errorf("packet %d: %v", i, s.Acked().List())
		}
		if i == 0 && s.Acked() != (bitset.Set{}) {
			t.Error("a window")
		}
	}
	if !slices.Equal(s.Done(), []int{5}) {
		t.Error(s.Done())
	}
}

// 30.3: what is not accepted does not create a window.
func TestNoWindow(t *testing.T) {
	a := packed(t, 5, 4)
	p, _ := keeping(t, a)
	s := sender.New(p)
	s.Tick(0)
	bad := ack(1, 1, a)
	bad.Text = set(9, 8).Put()
	if s.Hear(bad) || s.Acked() != (bitset.Set{}) || len(s.Tick(1)) > 0 {
		t.Error("a window")
	}
	if !s.Hear(ack(1, 1, a)) {
		t.Error("what was not accepted counts as the last answer")
	}
}

// 30.4
func TestAlways(t *testing.T) {
	a := packed(t, 3, 200)
	p, _ := keeping(t, a)
	s := sender.New(p)
	got := set(200)
	x := 1
	for now := range 120 {
		for _, q := range s.Tick(now) {
			if packet.Check(q) != api.OK {
				t.Fatal("an invalid packet")
			}
			x = x*6364136223846793005 + 1442695040888963407
			if q.Kind == api.Data && x>>33&1 == 0 {
				got = got.With(q.I)
				if merkle.Check(32, a.Head.Root, q.I, 200, merkle.Leaf(32, q.Text), q.Proof...) != api.OK {
					t.Fatal("not proved")
				}
			}
		}
		if s.Flight().Count() > 8 {
			t.Fatal("in flight", s.Flight().List())
		}
		s.Hear(ack(1, now+1, a, got.List()...))
	}
	if got.Count() < 100 {
		t.Error(got.Count())
	}
}

// P1
func TestNil(t *testing.T) {
	if sender.New(nil) != nil {
		t.Error("a nil depot")
	}
	var s *sender.Sender
	if s.Current() != 0 || len(s.Done()) > 0 || s.Acked() != (bitset.Set{}) || s.Flight() != (bitset.Set{}) || len(s.Tick(0)) > 0 || s.Hear(api.Packet{}) {
		t.Error("nil")
	}
}
