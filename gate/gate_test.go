package gate_test

import (
	"math"
	"slices"
	"strconv"
	"testing"

	"sledge/gate"
)

// 37.1
func TestExample(t *testing.T) {
	g := gate.New(2)
	if !g.Put("a") || !g.Put("b") || g.Put("c") || g.Len() != 2 {
		t.Error("put")
	}
	if s, ok := g.Get(); s != "a" || !ok {
		t.Error(s, ok)
	}
	if !g.Put("c") {
		t.Error("put after get")
	}
	if l := g.Drain(); !slices.Equal(l, []string{"b", "c"}) || g.Len() != 0 {
		t.Error(l)
	}
	if g.Put("d") || len(g.Drain()) > 0 {
		t.Error("after Drain")
	}
	if s, ok := g.Get(); s != "" || ok {
		t.Error(s, ok)
	}
}

// 37.1
func TestShut(t *testing.T) {
	g := gate.New(5)
	if s, ok := g.Get(); s != "" || ok {
		t.Error("get of nothing")
	}
	g.Put("")
	g.Put("x")
	g.Shut()
	g.Shut()
	if g.Put("y") || g.Len() != 2 {
		t.Error("put after Shut")
	}
	if s, ok := g.Get(); s != "" || !ok || g.Len() != 1 {
		t.Error("get after Shut")
	}
	if l := g.Drain(); !slices.Equal(l, []string{"x"}) {
		t.Error(l)
	}
	g.Shut()
	if s, ok := g.Get(); s != "" || ok || g.Len() != 0 {
		t.Error("get after Drain")
	}
	for size, want := range map[int]int{0: 0, -1: 0, math.MinInt: 0, 1: 1, 255: 255, 256: 256, 257: 256, math.MaxInt: 256} {
		g := gate.New(size)
		n := 0
		for g.Put(strconv.Itoa(n)) {
			n++
		}
		if n != want || g.Len() != want || len(g.Drain()) != want {
			t.Errorf("size %d: %d", size, n)
		}
	}
	if gate.Most != 256 {
		t.Error(gate.Most)
	}
}

// 37.3
func TestOrder(t *testing.T) {
	for size := 1; size < 9; size++ {
		g := gate.New(size)
		var in, out []string
		x := size
		for i := range 500 {
			x = x*6364136223846793005 + 1442695040888963407
			if x>>40&1 == 0 {
				if g.Put(strconv.Itoa(i)) {
					in = append(in, strconv.Itoa(i))
				} else if g.Len() != size {
					t.Fatal("no room")
				}
			} else if s, ok := g.Get(); ok {
				out = append(out, s)
			} else if g.Len() != 0 || s != "" {
				t.Fatal("nothing there")
			}
			if g.Len() != len(in)-len(out) {
				t.Fatal("length")
			}
		}
		if out = append(out, g.Drain()...); !slices.Equal(in, out) {
			t.Errorf("size %d: %q, not %q", size, out, in)
		}
	}
}

// 37.2
func TestThrough(t *testing.T) {
	var l []string
	for n := range 600 {
		for _, size := range []int{math.MinInt, -1, 0, 1, 2, 7, 256, 300, math.MaxInt} {
			if n < 20 || n%199 == 0 {
				keep := slices.Clone(l)
				got := gate.Through(size, l...)
				if !slices.Equal(got, l) || !slices.Equal(keep, l) {
					t.Errorf("%d strings, size %d: %q", n, size, got)
				}
				if n > 0 {
					got[0] = "changed"
					if !slices.Equal(keep, l) {
						t.Error("shared")
					}
				}
			}
		}
		l = append(l, strconv.Itoa(n%7))
	}
	if len(gate.Through(5)) > 0 {
		t.Error("nothing")
	}
}

// P1
func TestNil(t *testing.T) {
	var g *gate.Gate
	g.Shut()
	s, ok := g.Get()
	if g.Put("a") || s != "" || ok || g.Len() != 0 || len(g.Drain()) > 0 {
		t.Error("nil")
	}
}
