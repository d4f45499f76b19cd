package window_test

import (
	"math"
	"slices"
	"testing"

	"sledge/api"
	"sledge/bitset"
	"sledge/window"
)

func set(n int, l ...int) bitset.Set {
	s := bitset.New(n)
	for _, i := range l {
		s = s.With(i)
	}
	return s
}

// 29.1
func TestTimer(t *testing.T) {
	var timer window.Timer
	if timer.Due() != 0 {
		t.Error("the zero value")
	}
	if next, ok := timer.Fire(-1); ok || next != timer {
		t.Error("too early")
	}
	var fired []int
	for now := range 100 {
		before := timer
		next, ok := timer.Fire(now)
		if before != timer {
			t.Error("changed")
		}
		if !ok && next != timer || ok != (now >= timer.Due()) {
			t.Error("at", now, ok)
		}
		if ok {
			fired = append(fired, now)
		}
		timer = next
	}
	if !slices.Equal(fired, []int{0, 2, 6, 14, 30, 46, 62, 78, 94}) || timer.Due() != 110 {
		t.Error(fired, timer.Due())
	}
	timer = window.Timer{}
	for _, x := range [][2]int{{7, 9}, {20, 24}, {24, 32}, {33, 49}, {100, 116}, {1000, 1016}} {
		if _, ok := timer.Fire(timer.Due() - 1); ok {
			t.Error("too early")
		}
		next, ok := timer.Fire(x[0])
		if !ok || next.Due() != x[1] {
			t.Errorf("fired at %d: due at %d", x[0], next.Due())
		}
		timer = next
	}
}

func expect(t *testing.T, w *window.Window, now int, want ...int) {
	t.Helper()
	if got := w.Take(now); !slices.Equal(got, want) {
		t.Errorf("at %d: %d, not %d", now, got, want)
	}
	if w.Flight().Count() > 8 {
		t.Error("too many in flight")
	}
}

// 29.2, 29.3
func TestExample(t *testing.T) {
	w := window.New(3)
	if w.Acked() != set(3) || w.Flight() != set(3) {
		t.Error("new")
	}
	expect(t, w, 0, 0, 1, 2)
	expect(t, w, 1)
	if w.Flight() != set(3, 0, 1, 2) {
		t.Error("in flight")
	}
	if e := w.Ack(set(3, 1)); e != api.OK || w.Flight() != set(3, 0, 2) || w.Acked() != set(3, 1) {
		t.Error("ack", e)
	}
	expect(t, w, 2, 0, 2)
	expect(t, w, 5)
	expect(t, w, 6, 0, 2)
	expect(t, w, 13)
	expect(t, w, 14, 0, 2)
	expect(t, w, 29)
	expect(t, w, 30, 0, 2)
	expect(t, w, 45)
	expect(t, w, 46, 0, 2)
}

// 29.2, 29.3
func TestWindow(t *testing.T) {
	w := window.New(20)
	expect(t, w, 0, 0, 1, 2, 3, 4, 5, 6, 7)
	expect(t, w, 0)
	w.Ack(set(20, 0, 5, 15))
	expect(t, w, 1, 8, 9)
	expect(t, w, 2, 1, 2, 3, 4, 6, 7)
	expect(t, w, 3, 8, 9)
	w.Ack(set(20, 5, 15, 8, 9, 1))
	if w.Flight() != set(20, 2, 3, 4, 6, 7) || w.Acked() != set(20, 1, 5, 8, 9, 15) {
		t.Error("a block that had arrived and has not", w.Flight().List())
	}
	expect(t, w, 4, 0, 10, 11)
	expect(t, w, 5)
	expect(t, w, 6, 0, 2, 3, 4, 6, 7, 10, 11)
	w.Ack(set(20))
	if w.Flight() != set(20, 0, 2, 3, 4, 6, 7, 10, 11) || w.Acked() != set(20) {
		t.Error("nothing arrived", w.Flight().List())
	}
	expect(t, w, 7)
	all := bitset.New(20)
	for i := range 20 {
		all = all.With(i)
	}
	w.Ack(all)
	if w.Flight() != set(20) {
		t.Error("all arrived")
	}
	expect(t, w, 100)
	w.Ack(all.Without(17))
	expect(t, w, 100, 17)
	expect(t, w, 101)
	expect(t, w, 102, 17)
	expect(t, w, 105)
	expect(t, w, 106, 17)
}

// 29.2
func TestAckErrors(t *testing.T) {
	w := window.New(5)
	w.Take(0)
	for _, n := range []int{0, 4, 6, 256} {
		if e := w.Ack(set(n, 0, 1)); e != api.ErrArg || w.Acked() != set(5) || w.Flight().Count() != 5 {
			t.Errorf("a set of size %d: %d", n, e)
		}
	}
	for n, want := range map[int]int{0: 0, -1: 0, math.MinInt: 0, 256: 256, 300: 256, math.MaxInt: 256} {
		w := window.New(n)
		if w.Acked() != bitset.New(want) || w.Flight() != bitset.New(want) || len(w.Take(0)) != min(want, 8) {
			t.Errorf("%d blocks", n)
		}
		if e := w.Ack(bitset.New(want)); e != api.OK {
			t.Errorf("%d blocks: %d", n, e)
		}
	}
}

// 29.4
func TestAlways(t *testing.T) {
	for _, n := range []int{1, 7, 8, 9, 100, 256} {
		w := window.New(n)
		x := n
		for now := range 400 {
			before := w.Acked()
			flight := w.Flight()
			sent := w.Take(now)
			if w.Flight().Count() > 8 || !slices.IsSorted(sent) {
				t.Fatal("in flight", w.Flight().List())
			}
			for _, i := range sent {
				if before.Has(i) || !w.Flight().Has(i) {
					t.Fatal("sent", i)
				}
			}
			if !flight.Within(w.Flight()) {
				t.Fatal("no longer in flight")
			}
			x = x*6364136223846793005 + 1442695040888963407
			if x>>33&3 == 0 {
				w.Ack(before.With((x >> 40 & 0xffff) % n).With(max(w.Flight().Next(0, true), 0)).Without((x >> 20 & 0xffff) % n))
			}
			if w.Flight().Or(w.Acked()).Count() != w.Flight().Count()+w.Acked().Count() {
				t.Fatal("arrived and in flight")
			}
		}
	}
}

// P1
func TestNil(t *testing.T) {
	var w *window.Window
	if w.Ack(set(0)) != api.ErrNone || w.Acked() != (bitset.Set{}) || w.Flight() != (bitset.Set{}) || len(w.Take(5)) > 0 {
		t.Error("nil")
	}
}
