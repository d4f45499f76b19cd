package packet_test

import (
	"math"
	"slices"
	"strings"
	"testing"

	"sledge/api"
	"sledge/bitset"
	"sledge/header"
	"sledge/packet"
)

const most = 1<<32 - 1

var (
	head, _ = header.Put(api.Header{ID: 7, Salt: "0123456789abcdef", N: 3, Bytes: 500, Raw: 70000, Root: strings.Repeat("r", 32), Tag: strings.Repeat("t", 32)})
	blk     = strings.Repeat("b", 224)
	sum     = strings.Repeat("s", 32)
	set     = bitset.New(5).With(0).With(3).Put()
	offer   = api.Packet{Kind: api.Offer, From: 1, Text: head}
	data    = api.Packet{Kind: api.Data, From: 258, ID: 3, I: 4, Text: blk, Proof: []string{sum, strings.Repeat("u", 32)}}
	ack     = api.Packet{Kind: api.Ack, From: 2, Seq: 9, ID: 3, I: 5, N: 5, Text: set}
	done    = api.Packet{Kind: api.Done, From: 1, Seq: 2, ID: 3, Text: sum}
)

func equal(p, q api.Packet) bool {
	a, b := p.Proof, q.Proof
	return p.Kind == q.Kind && p.From == q.From && p.Seq == q.Seq && p.ID == q.ID && p.I == q.I && p.N == q.N && p.Text == q.Text && slices.Equal(a, b)
}

func with(p api.Packet, change func(p *api.Packet)) api.Packet {
	p.Proof = slices.Clone(p.Proof)
	change(&p)
	return p
}

// 26.1
func TestPut(t *testing.T) {
	for i, x := range []struct {
		p    api.Packet
		want string
	}{
		{offer, "SLP1\x01\x00\x00\x00\x01" + head},
		{data, "SLP1\x02\x00\x00\x01\x02\x00\x00\x00\x03\x00\x04" + blk + "\x02" + sum + strings.Repeat("u", 32)},
		{ack, "SLP1\x03\x00\x00\x00\x02\x00\x00\x00\x09\x00\x00\x00\x03\x00\x05\x00\x05" + set},
		{done, "SLP1\x04\x00\x00\x00\x01\x00\x00\x00\x02\x00\x00\x00\x03" + sum},
	} {
		if s, e := packet.Put(x.p); s != x.want || e != api.OK {
			t.Errorf("packet %d: %x %d", i, s, e)
		}
	}
}

// 26.1, 26.3
func TestGood(t *testing.T) {
	l := []api.Packet{offer, data, ack, done}
	for _, from := range []int{1, most} {
		l = append(l, with(offer, func(p *api.Packet) { p.From = from }), with(done, func(p *api.Packet) { p.From, p.Seq, p.ID = from, from, from }), with(ack, func(p *api.Packet) { p.ID, p.Seq = from, 0 }), with(data, func(p *api.Packet) { p.ID = from }))
	}
	for n := range 9 {
		l = append(l, with(data, func(p *api.Packet) { p.Proof = slices.Repeat([]string{sum}, n) }))
	}
	for _, i := range []int{0, 255} {
		l = append(l, with(data, func(p *api.Packet) { p.I = i }))
	}
	for _, x := range [][2]int{{1, 0}, {1, 1}, {256, 0}, {256, 256}, {256, 255}} {
		l = append(l, with(ack, func(p *api.Packet) { p.N, p.I, p.Text = x[0], x[1], bitset.New(x[0]).With(x[0]-1).Put() }))
	}
	for i, p := range l {
		if e := packet.Check(p); e != api.OK {
			t.Errorf("packet %d: %d", i, e)
		}
		s, e := packet.Put(p)
		got, e2 := packet.Take(s)
		if !equal(got, p) || e != api.OK || e2 != api.OK {
			t.Errorf("packet %d: %d %d", i, e, e2)
		}
		for _, x := range []string{s + "x", s + "\x00", s[:len(s)-1], s[1:], "x" + s, "SLP2" + s[4:], s + sum} {
			if got, e := packet.Take(x); !equal(got, api.Packet{}) || e != api.ErrForm {
				t.Errorf("packet %d, %d of %d bytes: %d", i, len(x), len(s), e)
			}
		}
	}
}

// 26.1
func TestWrong(t *testing.T) {
	l := []api.Packet{{}, {From: 1}, {Kind: 5, From: 1}, {Kind: -1, From: 1, Text: head}, {Kind: 257, From: 1, Text: head}, {Kind: math.MaxInt, From: 1}}
	for _, good := range []api.Packet{offer, data, ack, done} {
		for _, n := range []int{0, -1, 1 << 32, math.MinInt, math.MaxInt} {
			l = append(l, with(good, func(p *api.Packet) { p.From = n }))
			if good.Kind != api.Offer {
				l = append(l, with(good, func(p *api.Packet) { p.ID = n }))
			}
			if n != 0 && (good.Kind == api.Ack || good.Kind == api.Done) {
				l = append(l, with(good, func(p *api.Packet) { p.Seq = n }))
			}
		}
		for _, text := range []string{"", good.Text + "x", good.Text[1:], good.Text + "\x00"} {
			l = append(l, with(good, func(p *api.Packet) { p.Text = text }))
		}
		if good.Kind != api.Data {
			l = append(l, with(good, func(p *api.Packet) { p.Proof = []string{sum} }))
		}
	}
	l = append(l,
		with(offer, func(p *api.Packet) { p.Seq = 1 }), with(offer, func(p *api.Packet) { p.ID = 7 }), with(offer, func(p *api.Packet) { p.I = 1 }), with(offer, func(p *api.Packet) { p.N = 3 }), with(offer, func(p *api.Packet) { p.Text = "x" + head[1:] }),
		with(data, func(p *api.Packet) { p.Seq = 1 }), with(data, func(p *api.Packet) { p.N = 5 }), with(data, func(p *api.Packet) { p.I = -1 }), with(data, func(p *api.Packet) { p.I = 256 }), with(data, func(p *api.Packet) { p.I = 1 << 16 }),
		with(data, func(p *api.Packet) { p.Proof = slices.Repeat([]string{sum}, 9) }), with(data, func(p *api.Packet) { p.Proof = slices.Repeat([]string{sum}, 10) }), with(data, func(p *api.Packet) { p.Proof = slices.Repeat([]string{sum}, 256) }),
		with(data, func(p *api.Packet) { p.Proof[1] = "" }), with(data, func(p *api.Packet) { p.Proof[0] += "x" }), with(data, func(p *api.Packet) { p.Proof[0], p.Proof[1] = sum+"x", sum[1:] }),
		with(ack, func(p *api.Packet) { p.I = 6 }), with(ack, func(p *api.Packet) { p.I = -1 }), with(ack, func(p *api.Packet) { p.N, p.I = 0, 0 }), with(ack, func(p *api.Packet) { p.N, p.I, p.Text = 0, 0, bitset.New(0).Put() }), with(ack, func(p *api.Packet) { p.N = 257 }), with(ack, func(p *api.Packet) { p.N, p.I = 3, 0 }), with(ack, func(p *api.Packet) { p.N = -1 }),
		with(done, func(p *api.Packet) { p.I = 1 }), with(done, func(p *api.Packet) { p.N = 1 }))
	for i, p := range l {
		if e := packet.Check(p); e != api.ErrArg {
			t.Errorf("packet %d, %+v: %d", i, p, e)
		}
		if s, e := packet.Put(p); s != "" || e != api.ErrArg {
			t.Errorf("packet %d: %d", i, e)
		}
	}
}

// 26.1
func TestTakeErrors(t *testing.T) {
	o, _ := packet.Put(offer)
	d, _ := packet.Put(data)
	a, _ := packet.Put(ack)
	for i, s := range []string{"", "S", "SLP1", "SLP1\x01", "SLP1\x00\x00\x00\x00\x01", "SLP1\x05\x00\x00\x00\x01" + sum, "SLP1\x01\x00\x00\x00\x00" + head, o[:9] + "x" + o[10:], "SLP1\x02" + o[5:],
		d[:9] + "\x00\x00\x00\x00" + d[13:], d[:13] + "\x01\x00" + d[15:], d[:239] + "\x01" + d[240:], d[:239] + "\x03" + d[240:], d[:239] + "\x09" + d[240:] + strings.Repeat(sum, 7), d[:239] + "\xff" + d[240:],
		a[:17] + "\x00\x06" + a[19:], a[:19] + "\x00\x00" + a[21:], a[:19] + "\x01\x01" + a[21:], a[:19] + "\x00\x03" + a[21:]} {
		if p, e := packet.Take(s); !equal(p, api.Packet{}) || e != api.ErrForm {
			t.Errorf("string %d: %d", i, e)
		}
	}
	for _, s := range []string{o, d, a} {
		for i := range len(s) {
			b := []byte(s)
			b[i] ^= 1 << (i % 8)
			if p, e := packet.Take(string(b)); e == api.OK {
				if again, e := packet.Put(p); again != string(b) || e != api.OK {
					t.Errorf("byte %d changed", i)
				}
			}
		}
	}
}

// 26.2
func TestClass(t *testing.T) {
	for _, x := range []struct {
		p    api.Packet
		want int
	}{
		{offer, 257 + 256}, {data, 2*257 + 4}, {ack, 3*257 + 5}, {done, 4*257 + 256}, {api.Packet{Kind: 2, I: -1}, 2 * 257}, {api.Packet{Kind: 2, I: 256}, 2*257 + 256}, {api.Packet{Kind: 3, I: 257}, 3*257 + 256}, {api.Packet{Kind: 3, I: math.MaxInt}, 3*257 + 256}, {api.Packet{Kind: 3, I: math.MinInt}, 3 * 257},
		{api.Packet{}, 0}, {api.Packet{I: 9}, 9}, {api.Packet{Kind: 5, I: 1}, 5*257 + 1}, {api.Packet{Kind: -1, I: 2}, -255}, {api.Packet{Kind: 1, I: 9}, 257 + 256}, {api.Packet{Kind: 4, I: -5}, 4*257 + 256},
	} {
		if got := packet.Class(x.p); got != x.want {
			t.Errorf("Class(%d, %d) = %d", x.p.Kind, x.p.I, got)
		}
	}
}
