package world

import (
	"slices"

	"sledge/api"
	"sledge/packet"
)

// tick lets the clock go on: packets arrive, and packets are sent.
func (w *World) tick() {
	w.now++
	for {
		to, s, ok := w.net.Next(w.now)
		if !ok {
			break
		}
		w.deliver(to, s)
	}
	if w.Up(api.ToSender) {
		for _, p := range w.sender.Tick(w.now) {
			w.send(api.ToReceiver, p)
		}
	}
	w.trace.Flight = max(w.trace.Flight, w.sender.Flight().Count())
}

// deliver hands a packet to a side; it is lost if the side is down.
func (w *World) deliver(to int, s string) {
	p, e := packet.Take(s)
	if e != api.OK || !w.Up(to) {
		return
	}
	if to == api.ToSender {
		w.sender.Hear(p)
		return
	}
	depot := w.sides[to].p
	before := depot.Staged()
	answer, ok := w.receiver.Hear(p)
	if depot.Staged() > before {
		w.record(p.ID, p.I)
	}
	if ok {
		w.send(api.ToSender, answer)
	}
}

// send sends a packet if it is valid.
func (w *World) send(to int, p api.Packet) {
	if s, e := packet.Put(p); e == api.OK {
		w.net.Send(w.now, to, packet.Class(p), s)
	}
}

// record counts that a block was written.
func (w *World) record(id, i int) {
	k := slices.IndexFunc(w.trace.Staged, func(x api.Writes) bool { return x.ID == id && x.I == i })
	if k < 0 {
		w.trace.Staged = append(w.trace.Staged, api.Writes{ID: id, I: i, N: 1})
		return
	}
	w.trace.Staged[k].N++
}
