package bound_test

import (
	"math"
	"strings"
	"testing"

	"sledge/api"
	"sledge/archive"
	"sledge/bound"
	"sledge/world"
)

// 35.1
func TestExchange(t *testing.T) {
	for _, x := range []struct {
		k, d, want int
		e          api.Errno
	}{
		{1, 0, 52, api.OK}, {2, 3, 106, api.OK}, {1, 64, 48 + 132, api.OK}, {1000, 64, 16*1000002 + 132, api.OK}, {3, 1, 16*11 + 6, api.OK},
		{0, 0, 0, api.ErrArg}, {-1, 0, 0, api.ErrArg}, {1001, 0, 0, api.ErrArg}, {1, -1, 0, api.ErrArg}, {1, 65, 0, api.ErrArg}, {math.MaxInt, math.MaxInt, 0, api.ErrArg}, {math.MinInt, 3, 0, api.ErrArg}, {3, math.MinInt, 0, api.ErrArg},
	} {
		if n, e := bound.Exchange(x.k, x.d); n != x.want || e != x.e {
			t.Errorf("Exchange(%d, %d) = %d %d", x.k, x.d, n, e)
		}
	}
}

// 35.2
func TestTicks(t *testing.T) {
	for _, x := range []struct {
		n, k, d, want int
		e             api.Errno
	}{
		{1, 1, 0, 156, api.OK}, {5, 2, 3, 742, api.OK}, {256, 1, 0, 258 * 52, api.OK}, {256, 1000, 64, 258 * (16*1000002 + 132), api.OK},
		{0, 1, 0, 0, api.ErrArg}, {257, 1, 0, 0, api.ErrArg}, {-1, 1, 0, 0, api.ErrArg}, {math.MaxInt, 1, 0, 0, api.ErrArg}, {math.MinInt, 1, 0, 0, api.ErrArg}, {1, 0, 0, 0, api.ErrArg}, {1, 1001, 0, 0, api.ErrArg}, {1, 1, 65, 0, api.ErrArg}, {1, 1, -1, 0, api.ErrArg},
	} {
		if n, e := bound.Ticks(x.n, x.k, x.d); n != x.want || e != x.e {
			t.Errorf("Ticks(%d, %d, %d) = %d %d", x.n, x.k, x.d, n, e)
		}
	}
}

// 35.2
func TestAll(t *testing.T) {
	heads := func(l ...int) []api.Header {
		var out []api.Header
		for _, n := range l {
			out = append(out, api.Header{N: n})
		}
		return out
	}
	for _, x := range []struct {
		l          []api.Header
		k, d, want int
		e          api.Errno
	}{
		{heads(1, 1), 1, 0, 312, api.OK}, {heads(5, 1, 20), 2, 3, (7 + 3 + 22) * 106, api.OK}, {nil, 1, 0, 0, api.OK}, {heads(5), 2, 3, 742, api.OK},
		{heads(1, 0, 1), 1, 0, 0, api.ErrArg}, {heads(1, 257), 1, 0, 0, api.ErrArg}, {heads(1), 0, 0, 0, api.ErrArg}, {heads(1), 1, 65, 0, api.ErrArg},
	} {
		if n, e := bound.All(x.l, x.k, x.d); n != x.want || e != x.e {
			t.Errorf("All(%v, %d, %d) = %d %d", x.l, x.k, x.d, n, e)
		}
	}
}

type source int

func (x *source) below(n int) int {
	*x = *x*6364136223846793005 + 1442695040888963407
	return (int(*x) >> 33 & 0xffffff) % n
}

// 35.3
func TestWorlds(t *testing.T) {
	for seed := range 16 {
		x := source(seed * 3)
		fair := api.Fair{K: 1 + x.below(3), D: x.below(5)}
		w, e := world.New(world.Config{Secret: "secret", From: 50, To: 50 + x.below(9), Fair: fair})
		if e != api.OK {
			t.Fatal(e)
		}
		worst := func() api.Step {
			return api.Step{Kind: api.Fated, Fate: api.Fate{Drop: x.below(4) > 0, Delay: x.below(9)}}
		}
		for range 200 {
			switch k := x.below(12); {
			case k < 4:
				w.Do(worst())
			case k == 4:
				w.Do(api.Step{Kind: api.Pack, Files: []api.File{{Path: "f", Data: strings.Repeat("text", x.below(99)) + string(rune(x.below(9999)))}}})
			case k == 5:
				w.Do(api.Step{Kind: api.FuseS + x.below(2), N: x.below(9)})
			case k == 6:
				w.Do(api.Step{Kind: api.CrashS + x.below(2), N: x.below(99)})
			default:
				w.Do(api.Step{Kind: api.Tick})
			}
		}
		w.Do(api.Step{Kind: api.CrashS, N: x.below(99)})
		w.Do(api.Step{Kind: api.CrashR, N: x.below(99)})
		kept := w.Kept(api.ToSender)
		var heads []api.Header
		for _, a := range kept {
			heads = append(heads, a.Head)
		}
		n, e := bound.All(heads, fair.K, fair.D)
		if e != api.OK {
			t.Fatal(e)
		}
		for range n {
			w.Do(worst())
			w.Do(api.Step{Kind: api.Tick})
		}
		there := w.Kept(api.ToReceiver)
		for _, a := range kept {
			found := false
			for _, b := range there {
				found = found || archive.Same(a, b)
			}
			if !found {
				t.Errorf("seed %d: archive %d is not kept within %d ticks", seed, a.Head.ID, n)
			}
		}
	}
}
