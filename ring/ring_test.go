package ring_test

import (
	"math"
	"slices"
	"testing"

	"sledge/ring"
)

func list[T any](r *ring.Ring[T]) []T {
	var out []T
	for i, x := range r.All() {
		if i != len(out) {
			panic("another index")
		}
		out = append(out, x)
	}
	return out
}

// 27.1
func TestRing(t *testing.T) {
	r := ring.New[int](2)
	if !r.Push(1) || !r.Push(2) || r.Push(3) || r.Len() != 2 {
		t.Error("push")
	}
	if x, ok := r.Pop(); x != 1 || !ok {
		t.Error("pop", x, ok)
	}
	three := ring.New[string](3)
	if !three.Push("a") || !three.Push("b") || !three.Push("c") || three.Push("d") || !slices.Equal(list(three), []string{"a", "b", "c"}) {
		t.Error("three")
	}
	for size := range 6 {
		r := ring.New[int](size)
		var want []int
		n := size
		for step := range 3000 {
			n = n*6364136223846793005 + 1442695040888963407
			if n>>40&3 < 2 {
				if ok := r.Push(step); ok != (len(want) < size) {
					t.Fatal("push", ok)
				} else if ok {
					want = append(want, step)
				}
			} else {
				x, ok := r.Pop()
				if ok != (len(want) > 0) || ok && x != want[0] || !ok && x != 0 {
					t.Fatal("pop", x, ok)
				}
				if ok {
					want = want[1:]
				}
			}
			if r.Len() != len(want) || !slices.Equal(list(r), want) {
				t.Fatal("elements", list(r), want)
			}
			for i := -1; i <= size; i++ {
				x, ok := r.At(i)
				if inside := i >= 0 && i < len(want); ok != inside || ok && x != want[i] || !ok && x != 0 {
					t.Fatal("at", i, x, ok)
				}
			}
		}
	}
}

// 27.1
func TestSizes(t *testing.T) {
	for size, want := range map[int]int{-1: 0, math.MinInt: 0, 0: 0, 1: 1, 65536: 65536, 65537: 65536, math.MaxInt: 65536} {
		r := ring.New[byte](size)
		n := 0
		for n < 70000 && r.Push(1) {
			n++
		}
		if n != want || r.Len() != want {
			t.Errorf("size %d: %d", size, n)
		}
		for n > 0 {
			if _, ok := r.Pop(); !ok {
				t.Fatal("pop")
			}
			n--
		}
		if _, ok := r.Pop(); ok || r.Len() != 0 {
			t.Error("pop of nothing")
		}
		if x, ok := r.At(math.MinInt); x != 0 || ok {
			t.Error("at")
		}
		if x, ok := r.At(math.MaxInt); x != 0 || ok {
			t.Error("at")
		}
	}
}

// 27.1
func TestAll(t *testing.T) {
	r := ring.New[int](9)
	for i := range 9 {
		r.Push(i * i)
	}
	r.Pop()
	sum, times := 0, 0
	for i, x := range r.All() {
		sum += x
		times++
		if i == 3 {
			break
		}
	}
	if sum != 1+4+9+16 || times != 4 {
		t.Error(sum, times)
	}
	all := r.All()
	for range 2 {
		n := 0
		for range all {
			n++
		}
		if n != 8 {
			t.Error(n)
		}
	}
	for range r.All() {
		r.Pop()
		r.Push(5)
		r.Push(5)
	}
}

type item struct {
	name string
	part *int
}

// 27.2
func TestDue(t *testing.T) {
	var d ring.Due[string]
	if x, ok := d.Next(math.MaxInt); x != "" || ok || d.Len() != 0 {
		t.Error("empty")
	}
	d.Put(5, "a")
	d.Put(3, "b")
	d.Put(3, "c")
	if x, ok := d.Next(2); x != "" || ok {
		t.Error("too early")
	}
	for _, want := range []string{"b", "c"} {
		if x, ok := d.Next(4); x != want || !ok {
			t.Error(x, ok)
		}
	}
	if x, ok := d.Next(4); x != "" || ok || d.Len() != 1 {
		t.Error(x, ok)
	}
	if x, ok := d.Next(5); x != "a" || !ok || d.Len() != 0 {
		t.Error(x, ok)
	}
	var any ring.Due[item]
	any.Put(math.MaxInt, item{name: "late"})
	any.Put(math.MinInt, item{name: "early"})
	any.Put(0, item{name: "now"})
	if x, ok := any.Next(-1); x.name != "early" || !ok {
		t.Error(x)
	}
	if x, ok := any.Next(0); x.name != "now" || !ok {
		t.Error(x)
	}
	if x, ok := any.Next(math.MaxInt - 1); x != (item{}) || ok {
		t.Error(x)
	}
	if x, ok := any.Next(math.MaxInt); x.name != "late" || !ok {
		t.Error(x)
	}
}

// 27.2, 27.3
func TestDueOrder(t *testing.T) {
	type at struct{ time, order int }
	for spread := 1; spread < 60; spread += 7 {
		var d ring.Due[at]
		var want []at
		n := spread
		for step := range 2000 {
			n = n*6364136223846793005 + 1442695040888963407
			now := (n >> 33 & 0xffff) % spread
			if n>>50&3 > 0 {
				d.Put(now, at{now, step})
				want = append(want, at{now, step})
				slices.SortFunc(want, func(a, b at) int {
					if a.time != b.time {
						return a.time - b.time
					}
					return a.order - b.order
				})
			} else {
				x, ok := d.Next(now)
				if due := len(want) > 0 && want[0].time <= now; ok != due || ok && x != want[0] || !ok && x != (at{}) {
					t.Fatal(x, ok)
				}
				if ok {
					want = want[1:]
				}
			}
			if d.Len() != len(want) {
				t.Fatal("length")
			}
		}
	}
}

// P1
func TestNil(t *testing.T) {
	var r *ring.Ring[string]
	x, ok := r.At(0)
	y, ok2 := r.Pop()
	if x != "" || ok || y != "" || ok2 || r.Push("a") || r.Len() != 0 || len(list(r)) > 0 {
		t.Error("ring")
	}
	var d *ring.Due[string]
	d.Put(1, "a")
	if x, ok := d.Next(9); x != "" || ok || d.Len() != 0 {
		t.Error("due")
	}
}
