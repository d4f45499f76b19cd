package pace_test

import (
	"math"
	"testing"

	"sledge/pace"
)

// book keeps the integers of chapter 45, as it says.
type book struct {
	T, V, doubled, R, E int
	came                bool
}

func (b *book) Came(ticks int) {
	t := min(max(ticks, 0), 64)
	if !b.came {
		b.T, b.V, b.came = 8*t, 2*t, true
	} else {
		off := t - b.T>>3
		abs := off
		if off < 0 {
			abs = -off
		}
		b.T, b.V = b.T+off, b.V+abs-b.V>>2
	}
	b.doubled = 0
	if b.R < b.E {
		b.R += 16
	} else {
		b.R += max(256/b.R, 1)
	}
	b.R = min(b.R, 1024)
}

func (b *book) Lost() {
	b.E, b.R, b.doubled = max(b.R/2, 32), 16, min(b.doubled+1, 6)
}

func (b *book) Gap() {
	b.E = max(b.R/2, 32)
	b.R = b.E
}

func (b *book) Wait() int {
	n := 2
	if b.came {
		n = max(b.T>>3+max(b.V, 1), 2)
	}
	for range b.doubled {
		n *= 2
	}
	return min(n, 64)
}

// 45.1, 45.2, 45.3
func TestExamples(t *testing.T) {
	var p pace.Pace
	if p.Wait() != 2 || p.Rate() != 1 {
		t.Error("the zero value", p.Wait(), p.Rate())
	}
	q := p.Came(4)
	if p != (pace.Pace{}) || q == p || q.Wait() != 12 || q.Rate() != 2 {
		t.Error("the first answer", q.Wait(), q.Rate())
	}
	q = q.Came(4)
	if q.Wait() != 10 || q.Rate() != 3 {
		t.Error("the second answer", q.Wait(), q.Rate())
	}
	before := q
	q = q.Lost()
	if q.Wait() != 20 || q.Rate() != 1 || before.Wait() != 10 || before.Rate() != 3 {
		t.Error("a loss", q.Wait(), q.Rate())
	}
	if q.Lost().Wait() != 40 || q.Lost().Lost().Wait() != 64 || q.Lost().Came(4).Wait() != 9 {
		t.Error("losses")
	}
	for i, want := range []int{2, 4, 8, 16, 32, 64, 64, 64, 64} {
		if p.Wait() != want {
			t.Errorf("%d losses: %d", i, p.Wait())
		}
		p = p.Lost()
	}
	if pace.LeastWait != 2 || pace.MostWait != 64 || pace.MostRate != 64 {
		t.Error("limits")
	}
}

// 45.1
func TestCame(t *testing.T) {
	for _, x := range [][3]int{{0, 2, 2}, {1, 3, 2}, {-1, 2, 2}, {math.MinInt, 2, 2}, {10, 30, 2}, {21, 63, 2}, {22, 64, 2}, {64, 64, 2}, {65, 64, 2}, {math.MaxInt, 64, 2}} {
		p := pace.Pace{}.Came(x[0])
		if p.Wait() != x[1] || p.Rate() != x[2] {
			t.Errorf("Came(%d): %d %d", x[0], p.Wait(), p.Rate())
		}
	}
	if (pace.Pace{}).Came(-5) != (pace.Pace{}).Came(0) || (pace.Pace{}).Came(64) != (pace.Pace{}).Came(1000) {
		t.Error("limited")
	}
	// The rate doubles what it may at first, and then grows slowly.
	p := pace.Pace{}
	for i := range 63 {
		p = p.Came(1)
		if p.Rate() != min(2+i, 64) {
			t.Errorf("%d answers: %d", i+1, p.Rate())
		}
	}
	if q := p.Came(1); q.Rate() != 64 {
		t.Error("above the greatest rate")
	}
	g := p.Gap()
	if g.Rate() != 32 || g.Came(1).Rate() != 32 || g.Wait() != p.Wait() {
		t.Error("a gap", g.Rate())
	}
	for range 64 {
		g = g.Came(1)
	}
	if g.Rate() != 36 {
		t.Error("after a gap", g.Rate())
	}
	l := p.Lost()
	for i := range 31 {
		if l.Rate() != 1+i {
			t.Errorf("%d after a loss: %d", i, l.Rate())
		}
		l = l.Came(1)
	}
	if l.Rate() != 32 || l.Came(1).Rate() != 32 {
		t.Error("the threshold", l.Rate())
	}
}

// 45.2: the same integers are the same pace.
func TestEqual(t *testing.T) {
	var p pace.Pace
	if p.Lost() == p || p.Gap() == p || p.Came(0) == p {
		t.Error("the zero value")
	}
	if p.Gap() != p.Gap().Gap() || p.Gap().Rate() != 2 {
		t.Error("gaps")
	}
	a := p.Came(3).Lost()
	b := p.Came(3).Lost().Lost()
	if a == b || a.Came(3) != b.Came(3) {
		t.Error("answers after losses")
	}
	many := p
	for range 6 {
		many = many.Lost()
	}
	if many != many.Lost() {
		t.Error("losses")
	}
}

// 45.1 to 45.4
func TestAll(t *testing.T) {
	x := 1
	seen := map[pace.Pace]book{}
	back := map[book]pace.Pace{}
	for range 40 {
		p, b := pace.Pace{}, book{R: 16, E: 1024}
		for range 400 {
			x = x*6364136223846793005 + 1442695040888963407
			n := (x >> 33 & 0xffff) % 100
			switch k := x >> 55 & 15; {
			case k == 0:
				p = p.Lost()
				b.Lost()
			case k == 1:
				p = p.Gap()
				b.Gap()
			default:
				if k&1 == 0 {
					n %= 9
				}
				p = p.Came(n - 5)
				b.Came(n - 5)
			}
			if p.Wait() != b.Wait() || p.Rate() != b.R/16 {
				t.Fatalf("%+v: wait %d, rate %d", b, p.Wait(), p.Rate())
			}
			if p.Wait() < 2 || p.Wait() > 64 || p.Rate() < 1 || p.Rate() > 64 {
				t.Fatal("limits", p.Wait(), p.Rate())
			}
			if c, ok := seen[p]; ok && c != b {
				t.Fatal("one pace of different integers")
			}
			if q, ok := back[b]; ok && q != p {
				t.Fatal("different paces of the same integers")
			}
			seen[p], back[b] = b, p
		}
	}
}

// 45.4
func TestSteady(t *testing.T) {
	for ticks := range 65 {
		var p pace.Pace
		for i := range 200 {
			p = p.Came(ticks)
			if p.Wait() < ticks {
				t.Errorf("%d answers of %d ticks: %d", i+1, ticks, p.Wait())
			}
		}
		if p.Wait() > max(ticks+4, 2) {
			t.Errorf("answers of %d ticks: %d", ticks, p.Wait())
		}
	}
}
