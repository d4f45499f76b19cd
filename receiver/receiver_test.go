package receiver_test

import (
	"math"
	"slices"
	"strings"
	"testing"

	"sledge/api"
	"sledge/archive"
	"sledge/bitset"
	"sledge/depot"
	"sledge/disk"
	"sledge/header"
	"sledge/merkle"
	"sledge/packet"
	"sledge/receiver"
)

func noise(n, seed int) string {
	b := make([]byte, n)
	x := n + seed
	for i := range b {
		x = x*6364136223846793005 + 1442695040888963407
		b[i] = byte(x >> 40)
	}
	return string(b)
}

func packed(t *testing.T, id, n int) api.Archive {
	t.Helper()
	a, e := archive.Pack("secret", "0123456789abcdef", id, api.File{Path: "f", Data: noise(n*192-20, id)})
	if e != api.OK || a.Head.N != n {
		t.Fatal(e, a.Head.N)
	}
	return a
}

func opened(t *testing.T) (*receiver.Receiver, *depot.Depot, *disk.Disk) {
	t.Helper()
	d, _ := disk.New(100)
	p, e := depot.Open(d, "secret")
	if e != api.OK {
		t.Fatal(e)
	}
	return receiver.New(p), p, d
}

func offer(h api.Header) api.Packet {
	text, _ := header.Put(h)
	return api.Packet{Kind: api.Offer, From: 1, Text: text}
}

func data(a api.Archive, i int) api.Packet {
	var sums []string
	for _, b := range a.Blocks {
		sums = append(sums, merkle.Leaf(32, b))
	}
	proof, _ := merkle.Proof(32, i, sums...)
	return api.Packet{Kind: api.Data, From: 1, ID: a.Head.ID, I: i, Text: a.Blocks[i], Proof: proof}
}

func set(n int, l ...int) string {
	s := bitset.New(n)
	for _, i := range l {
		s = s.With(i)
	}
	return s.Put()
}

func equal(p, q api.Packet) bool {
	return p.Kind == q.Kind && p.From == q.From && p.Seq == q.Seq && p.ID == q.ID && p.I == q.I && p.N == q.N && p.Text == q.Text && slices.Equal(p.Proof, q.Proof)
}

func answers(t *testing.T, r *receiver.Receiver, p, want api.Packet) {
	t.Helper()
	got, ok := r.Hear(p)
	if !ok || !equal(got, want) {
		t.Errorf("%+v %v, not %+v", got, ok, want)
	}
	if packet.Check(p) == api.OK && packet.Check(got) != api.OK {
		t.Errorf("the answer %+v is not valid", got)
	}
}

func silent(t *testing.T, what string, r *receiver.Receiver, p api.Packet) {
	t.Helper()
	if got, ok := r.Hear(p); ok || !equal(got, api.Packet{}) {
		t.Errorf("%s: %+v %v", what, got, ok)
	}
}

// 31.2, 31.3
func TestTransfer(t *testing.T) {
	r, p, d := opened(t)
	a, b := packed(t, 7, 3), packed(t, 8, 1)
	silent(t, "data before the offer", r, data(a, 0))
	answers(t, r, offer(b.Head), api.Packet{Kind: api.Ack, From: 1, Seq: 1, ID: 8, I: 1, N: 1, Text: set(1)})
	answers(t, r, offer(a.Head), api.Packet{Kind: api.Ack, From: 1, Seq: 2, ID: 7, I: 3, N: 3, Text: set(3)})
	answers(t, r, data(a, 1), api.Packet{Kind: api.Ack, From: 1, Seq: 3, ID: 7, I: 1, N: 3, Text: set(3, 1)})
	answers(t, r, data(a, 1), api.Packet{Kind: api.Ack, From: 1, Seq: 4, ID: 7, I: 1, N: 3, Text: set(3, 1)})
	answers(t, r, offer(a.Head), api.Packet{Kind: api.Ack, From: 1, Seq: 5, ID: 7, I: 3, N: 3, Text: set(3, 1)})
	answers(t, r, data(a, 2), api.Packet{Kind: api.Ack, From: 1, Seq: 6, ID: 7, I: 2, N: 3, Text: set(3, 1, 2)})
	answers(t, r, data(b, 0), api.Packet{Kind: api.Done, From: 1, Seq: 7, ID: 8, Text: b.Head.Root})
	answers(t, r, data(a, 0), api.Packet{Kind: api.Done, From: 1, Seq: 8, ID: 7, Text: a.Head.Root})
	answers(t, r, data(a, 2), api.Packet{Kind: api.Done, From: 1, Seq: 9, ID: 7, Text: a.Head.Root})
	answers(t, r, offer(a.Head), api.Packet{Kind: api.Done, From: 1, Seq: 10, ID: 7, Text: a.Head.Root})
	answers(t, r, api.Packet{Kind: api.Data, ID: 7, I: 99, Text: "any"}, api.Packet{Kind: api.Done, From: 1, Seq: 11, ID: 7, Text: a.Head.Root})
	if got, e := p.Read(7); !archive.Same(got, a) || e != api.OK || p.Staged() != 4 {
		t.Error("read", e)
	}
	d.Crash(0)
	q, e := depot.Open(d, "secret")
	if e != api.OK {
		t.Fatal(e)
	}
	answers(t, receiver.New(q), offer(b.Head), api.Packet{Kind: api.Done, From: 2, Seq: 1, ID: 8, Text: b.Head.Root})
}

// 31.2, 31.4
func TestRejected(t *testing.T) {
	r, p, d := opened(t)
	a := packed(t, 7, 5)
	wrong := a.Head
	wrong.Tag = noise(32, 1)
	other := packed(t, 7, 4).Head
	change := func(p api.Packet, f func(p *api.Packet)) api.Packet {
		p.Proof = slices.Clone(p.Proof)
		f(&p)
		return p
	}
	answers(t, r, offer(a.Head), api.Packet{Kind: api.Ack, From: 1, Seq: 1, ID: 7, I: 5, N: 5, Text: set(5)})
	before := make([]string, d.Len())
	for i := range before {
		before[i], _ = d.Read(i)
	}
	good := data(a, 2)
	for what, x := range map[string]api.Packet{
		"nothing": {}, "an ack": {Kind: api.Ack, From: 1, ID: 7, I: 5, N: 5, Text: set(5)}, "done": {Kind: api.Done, From: 1, ID: 7, Text: a.Head.Root}, "another kind": {Kind: 9, ID: 7},
		"a wrong tag": offer(wrong), "another header": offer(other), "no header": change(offer(a.Head), func(p *api.Packet) { p.Text += "x" }), "an empty offer": {Kind: api.Offer},
		"too large": offer(packed(t, 9, 200).Head), "no such archive": change(good, func(p *api.Packet) { p.ID = 8 }), "a block of another place": change(good, func(p *api.Packet) { p.I = 3 }), "no place": change(good, func(p *api.Packet) { p.I = 5 }), "a negative place": change(good, func(p *api.Packet) { p.I = -1 }), "a huge place": change(good, func(p *api.Packet) { p.I = math.MaxInt }),
		"another block": change(good, func(p *api.Packet) { p.Text = a.Blocks[1] }), "a changed block": change(good, func(p *api.Packet) { p.Text = "x" + p.Text[1:] }), "a short block": change(good, func(p *api.Packet) { p.Text = p.Text[1:] }), "no proof": change(good, func(p *api.Packet) { p.Proof = nil }), "a sum too few": change(good, func(p *api.Packet) { p.Proof = p.Proof[1:] }), "a sum too many": change(good, func(p *api.Packet) { p.Proof = append(p.Proof, p.Proof[0]) }), "another sum": change(good, func(p *api.Packet) { p.Proof[1] = noise(32, 2) }),
	} {
		silent(t, what, r, x)
		if got, e := p.Got(7); got != bitset.New(5) || e != api.OK || p.Staged() != 0 || len(p.Under()) != 1 || len(p.Kept()) != 0 {
			t.Errorf("%s: something changed", what)
		}
	}
	for i := range before {
		if s, _ := d.Read(i); s != before[i] {
			t.Errorf("sector %d changed", i)
		}
	}
	answers(t, r, good, api.Packet{Kind: api.Ack, From: 1, Seq: 2, ID: 7, I: 2, N: 5, Text: set(5, 2)})
	d.Fuse(0)
	silent(t, "no power", r, data(a, 1))
	silent(t, "no power", r, offer(packed(t, 8, 1).Head))
	silent(t, "no power", r, offer(a.Head))
}

// 31.3: a commit that fails is answered by an ack of all.
func TestCommitFails(t *testing.T) {
	r, p, d := opened(t)
	for id := 1; id <= 8; id++ {
		if e := p.Add("secret", packed(t, id, 1)); e != api.OK {
			t.Fatal(e)
		}
	}
	a := packed(t, 9, 2)
	answers(t, r, offer(a.Head), api.Packet{Kind: api.Ack, From: 1, Seq: 1, ID: 9, I: 2, N: 2, Text: set(2)})
	answers(t, r, data(a, 0), api.Packet{Kind: api.Ack, From: 1, Seq: 2, ID: 9, I: 0, N: 2, Text: set(2, 0)})
	answers(t, r, data(a, 1), api.Packet{Kind: api.Ack, From: 1, Seq: 3, ID: 9, I: 1, N: 2, Text: set(2, 0, 1)})
	answers(t, r, offer(a.Head), api.Packet{Kind: api.Ack, From: 1, Seq: 4, ID: 9, I: 2, N: 2, Text: set(2, 0, 1)})
	d.Write(5, "")
	q, e := depot.Open(d, "secret")
	if e != api.OK {
		t.Fatal(e)
	}
	r = receiver.New(q)
	d.Write(21, strings.Repeat("x", 100))
	answers(t, r, data(a, 1), api.Packet{Kind: api.Ack, From: 2, Seq: 1, ID: 9, I: 1, N: 2, Text: set(2, 0, 1)})
	d.Write(21, a.Blocks[0])
	c := d.Clone()
	cut, _ := depot.Open(c, "secret")
	c.Fuse(1)
	answers(t, receiver.New(cut), data(a, 1), api.Packet{Kind: api.Ack, From: 3, Seq: 1, ID: 9, I: 1, N: 2, Text: set(2, 0, 1)})
	c = d.Clone()
	cut, _ = depot.Open(c, "secret")
	c.Fuse(2)
	answers(t, receiver.New(cut), data(a, 1), api.Packet{Kind: api.Ack, From: 3, Seq: 1, ID: 9, I: 1, N: 2, Text: set(2, 0, 1)})
	if _, kept, e := cut.Head(9); !kept || e != api.OK {
		t.Error("not kept, though only its record stays", e)
	}
	answers(t, r, offer(a.Head), api.Packet{Kind: api.Done, From: 2, Seq: 2, ID: 9, Text: a.Head.Root})
}

// 31.1
func TestNew(t *testing.T) {
	if receiver.New(nil) != nil {
		t.Error("a nil depot")
	}
	r, p, _ := opened(t)
	a := packed(t, 7, 1)
	for seq := 1; seq < 4; seq++ {
		answers(t, r, offer(a.Head), api.Packet{Kind: api.Ack, From: 1, Seq: seq, ID: 7, I: 1, N: 1, Text: set(1)})
	}
	answers(t, receiver.New(p), offer(a.Head), api.Packet{Kind: api.Ack, From: 1, Seq: 1, ID: 7, I: 1, N: 1, Text: set(1)})
}

// P1
func TestNil(t *testing.T) {
	var r *receiver.Receiver
	silent(t, "nil", r, offer(packed(t, 1, 1).Head))
	silent(t, "nil", r, api.Packet{})
}
