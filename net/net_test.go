package net_test

import (
	"math"
	"slices"
	"strconv"
	"testing"

	"sledge/api"
	"sledge/net"
)

// arrived takes all packets that arrive by now.
func arrived(n *net.Net, now int) []string {
	var out []string
	for {
		to, s, ok := n.Next(now)
		if !ok {
			if to != 0 || s != "" {
				panic("not zero")
			}
			return out
		}
		out = append(out, string(rune('0'+to))+s)
	}
}

func expect(t *testing.T, n *net.Net, now int, want ...string) {
	t.Helper()
	if got := arrived(n, now); !slices.Equal(got, want) {
		t.Errorf("at %d: %q, not %q", now, got, want)
	}
}

// 28.1, 28.2, 28.3
func TestSend(t *testing.T) {
	n := net.New(api.Fair{})
	n.Fates(api.Fate{Drop: true}, api.Fate{Delay: 2, Copies: 1})
	if n.Left() != 2 || n.Len() != 0 {
		t.Error("fates")
	}
	if f := n.Send(0, 0, 1, "a"); !f.Drop {
		t.Error(f)
	}
	if f := n.Send(0, 0, 1, "b"); f != (api.Fate{Delay: 2, Copies: 1}) {
		t.Error(f)
	}
	if n.Left() != 0 || n.Len() != 2 {
		t.Error(n.Left(), n.Len())
	}
	expect(t, n, 2)
	expect(t, n, 3, "0b")
	expect(t, n, 4, "0b")
	if f := n.Send(4, 1, 1, "c"); f != (api.Fate{}) {
		t.Error(f)
	}
	expect(t, n, 4)
	expect(t, n, 5, "1c")
	n.Fates(api.Fate{Delay: 1})
	n.Fates()
	n.Fates(api.Fate{Copies: 2}, api.Fate{Delay: 3})
	if n.Left() != 3 {
		t.Error(n.Left())
	}
	n.Send(10, 1, 5, "x")
	n.Send(10, 0, 5, "y")
	n.Send(10, 1, 5, "z")
	n.Send(11, 0, 5, "w")
	if n.Left() != 0 || n.Len() != 6 {
		t.Error(n.Left(), n.Len())
	}
	expect(t, n, 100, "0y", "1x", "0y", "0w", "0y", "1z")
	if n.Len() != 0 {
		t.Error(n.Len())
	}
}

// 28.1
func TestLimits(t *testing.T) {
	for _, x := range []struct{ f, want api.Fate }{
		{api.Fate{Delay: 64, Copies: 3}, api.Fate{Delay: 64, Copies: 3}}, {api.Fate{Delay: 65, Copies: 4}, api.Fate{Delay: 64, Copies: 3}}, {api.Fate{Delay: -1, Copies: -1}, api.Fate{}},
		{api.Fate{Delay: math.MaxInt, Copies: math.MaxInt}, api.Fate{Delay: 64, Copies: 3}}, {api.Fate{Delay: math.MinInt, Copies: math.MinInt}, api.Fate{}},
	} {
		n := net.New(api.Fair{})
		n.Fates(x.f)
		if f := n.Send(0, 0, 1, "a"); f != x.want || n.Len() != 1+x.want.Copies {
			t.Errorf("%v: %v, %d", x.f, f, n.Len())
		}
		for i := range 1 + x.want.Copies {
			expect(t, n, x.want.Delay+i)
			expect(t, n, x.want.Delay+i+1, "0a")
		}
	}
}

// 28.2
func TestFair(t *testing.T) {
	drop := api.Fate{Drop: true}
	n := net.New(api.Fair{K: 3, D: 1})
	n.Fates(slices.Repeat([]api.Fate{drop}, 9)...)
	for i := 1; i <= 9; i++ {
		if f := n.Send(i, 0, 7, "a"); f.Drop != (i%3 != 0) || f.Delay != 0 {
			t.Errorf("packet %d: %v", i, f)
		}
	}
	if n.Len() != 3 {
		t.Error(n.Len())
	}
	n = net.New(api.Fair{K: 3, D: 1})
	for i, x := range []struct {
		to, class int
		f, want   api.Fate
	}{
		{0, 1, drop, drop}, {0, 2, drop, drop}, {1, 1, drop, drop}, {0, 1, api.Fate{Delay: 2}, api.Fate{Delay: 2}}, {0, 2, drop, drop}, {1, 1, drop, drop},
		{0, 1, api.Fate{Delay: 9, Copies: 2}, api.Fate{Delay: 1, Copies: 2}}, {0, 2, api.Fate{Drop: true, Delay: 5}, api.Fate{Delay: 1}}, {1, 1, api.Fate{Delay: 1}, api.Fate{Delay: 1}},
		{0, 1, drop, drop}, {0, 1, api.Fate{Delay: 1}, api.Fate{Delay: 1}}, {0, 1, drop, drop}, {0, 1, drop, drop}, {0, 1, drop, api.Fate{}}, {0, 1, drop, drop},
	} {
		n.Fates(x.f)
		f := n.Send(0, x.to, x.class, "a")
		if f.Drop != x.want.Drop || !f.Drop && f != x.want {
			t.Errorf("packet %d: %v, not %v", i, f, x.want)
		}
	}
	for _, x := range []struct {
		fair api.Fair
		f    api.Fate
		want []api.Fate
	}{
		{api.Fair{K: 1, D: 4}, api.Fate{Drop: true, Delay: 9}, []api.Fate{{Delay: 4}, {Delay: 4}}}, {api.Fair{K: 1, D: 99}, api.Fate{Delay: 80}, []api.Fate{{Delay: 64}}}, {api.Fair{K: 2, D: -5}, api.Fate{Delay: 3}, []api.Fate{{Delay: 3}, {}, {Delay: 3}, {}}},
		{api.Fair{K: 0, D: 0}, drop, slices.Repeat([]api.Fate{drop}, 9)}, {api.Fair{K: -1}, drop, slices.Repeat([]api.Fate{drop}, 9)}, {api.Fair{K: math.MinInt}, drop, slices.Repeat([]api.Fate{drop}, 9)}, {api.Fair{K: math.MaxInt}, drop, slices.Repeat([]api.Fate{drop}, 9)},
	} {
		n := net.New(x.fair)
		for i, want := range x.want {
			n.Fates(x.f)
			if f := n.Send(i, 1, 5, "a"); f.Drop != want.Drop || !f.Drop && f != want {
				t.Errorf("%v, packet %d: %v", x.fair, i, f)
			}
		}
	}
}

// 28.2: of any K consecutive packets of a class and a direction, one arrives in time.
func TestFairAlways(t *testing.T) {
	for _, fair := range []api.Fair{{K: 1, D: 0}, {K: 2, D: 3}, {K: 5, D: 1}, {K: 4, D: 64}} {
		n := net.New(fair)
		x := fair.K
		late := map[[2]int]int{}
		for range 3000 {
			x = x*6364136223846793005 + 1442695040888963407
			own := api.Fate{Drop: x>>33&3 < 2, Delay: x >> 40 & 7}
			n.Fates(own)
			class := [2]int{x >> 20 & 1, x >> 24 & 3}
			f := n.Send(0, class[0], class[1], "a")
			forced := late[class] >= fair.K-1
			if !forced && (f.Drop != own.Drop || !own.Drop && f != own) || forced && (f.Drop || f.Delay != min(own.Delay, fair.D)) {
				t.Fatalf("%v: %v becomes %v", fair, own, f)
			}
			if f.Drop || f.Delay > fair.D {
				late[class]++
			} else {
				late[class] = 0
			}
		}
	}
}

// 28.2
func TestInject(t *testing.T) {
	n := net.New(api.Fair{K: 2})
	n.Fates(api.Fate{Drop: true})
	n.Inject(5, 1, 0, "a")
	n.Inject(5, 0, 3, "b")
	n.Inject(5, 0, -9, "c")
	n.Inject(5, 0, 99, "d")
	if n.Left() != 1 || n.Len() != 4 {
		t.Error(n.Left(), n.Len())
	}
	expect(t, n, 5)
	expect(t, n, 6, "1a", "0c")
	expect(t, n, 8)
	expect(t, n, 9, "0b")
	expect(t, n, 69)
	expect(t, n, 70, "0d")
	if f := n.Send(70, 0, 1, "e"); !f.Drop {
		t.Error("an injected packet used a fate")
	}
}

// 28.2
func TestMaxPackets(t *testing.T) {
	n := net.New(api.Fair{})
	for i := range api.MaxPackets - 2 {
		n.Send(i%50, 0, 1, "a")
	}
	n.Fates(api.Fate{Copies: 3})
	if f := n.Send(60, 1, 1, "b"); f.Copies != 3 || n.Len() != api.MaxPackets {
		t.Error(f, n.Len())
	}
	n.Inject(60, 1, 0, "c")
	n.Fates(api.Fate{Delay: 1}, api.Fate{Delay: 2})
	if f := n.Send(60, 1, 1, "d"); f.Delay != 1 || n.Len() != api.MaxPackets || n.Left() != 1 {
		t.Error(f, n.Len())
	}
	n.Next(0)
	if _, _, ok := n.Next(1); !ok {
		t.Error("next")
	}
	n.Inject(0, 1, 0, "e")
	n.Inject(0, 1, 0, "f")
	if n.Len() != api.MaxPackets {
		t.Error(n.Len())
	}
	got := arrived(n, 1000)
	if len(got) != api.MaxPackets || !slices.Equal(got[len(got)-2:], []string{"1b", "1b"}) || slices.Contains(got, "1c") || !slices.Contains(got, "1e") || slices.Contains(got, "1f") {
		t.Error(len(got), got[len(got)-2:])
	}
}

// 28.4
func TestNothingElseArrives(t *testing.T) {
	x := 3
	below := func(m int) int { x = x*6364136223846793005 + 1442695040888963407; return (x >> 33 & 0xffffff) % m }
	for seed := range 20 {
		n := net.New(api.Fair{K: seed % 4, D: seed % 3})
		allowed, due := map[string]int{}, map[string]int{}
		for now := range 400 {
			for {
				to, s, ok := n.Next(now)
				if !ok {
					break
				}
				key := string(rune('0'+to)) + s
				if allowed[key]--; allowed[key] < 0 || now < due[key] {
					t.Fatalf("%q at %d", key, now)
				}
			}
			key := strconv.Itoa(now)
			to := below(2)
			switch below(4) {
			case 0:
				n.Fates(api.Fate{Drop: below(2) == 0, Delay: below(90), Copies: below(6)})
			case 1:
				d := below(90)
				n.Inject(now, to, d, key)
				allowed[string(rune('0'+to))+key], due[string(rune('0'+to))+key] = 1, now+1+min(d, 64)
			default:
				f := n.Send(now, to, below(3), key)
				if !f.Drop {
					allowed[string(rune('0'+to))+key], due[string(rune('0'+to))+key] = 1+f.Copies, now+1+f.Delay
				}
			}
		}
		arrived(n, 1000)
		if n.Len() != 0 {
			t.Error("left over", n.Len())
		}
	}
}

// R4
func TestFatesAreNotRetained(t *testing.T) {
	n := net.New(api.Fair{})
	l := []api.Fate{{Delay: 1}, {Delay: 2}}
	n.Fates(l...)
	l[0], l[1] = api.Fate{Drop: true}, api.Fate{Drop: true}
	if f := n.Send(0, 0, 1, "a"); f.Delay != 1 || f.Drop {
		t.Error(f)
	}
}

// P1
func TestNil(t *testing.T) {
	var n *net.Net
	n.Fates(api.Fate{})
	n.Inject(0, 0, 0, "a")
	to, s, ok := n.Next(9)
	if f := n.Send(0, 0, 1, "a"); !f.Drop || f.Delay != 0 || f.Copies != 0 || n.Left() != 0 || n.Len() != 0 || to != 0 || s != "" || ok {
		t.Error("nil")
	}
}
