package clash_test

import (
	"math"
	"slices"
	"strconv"
	"testing"

	"sledge/clash"
	"sledge/merkle"
)

// alike finds a leaf with the same sum of width 1 as another one.
func alike(s, start string) string {
	for i := 0; ; i++ {
		x := start + strconv.Itoa(i)
		if x != s && merkle.Leaf(1, x) == merkle.Leaf(1, s) {
			return x
		}
	}
}

func sums(w int, l []string) []string {
	var out []string
	for _, s := range l {
		out = append(out, merkle.Leaf(w, s))
	}
	return out
}

// 17.1
func TestValid(t *testing.T) {
	a, b := "\x00a", "\x00"+alike("a", "b")
	if !clash.Valid(1, a, b) || !clash.Valid(-3, b, a) || clash.Valid(32, a, b) || clash.Valid(1, "a", "a") || clash.Valid(1, a, a) || clash.Valid(32, "", "x") || clash.Valid(32, "", "") {
		t.Error("valid")
	}
}

// 17.2
func TestLeavesExample(t *testing.T) {
	x, y, ok := clash.Leaves(1, []string{"q", "ax"}, []string{"q", "bh"})
	if x != "\x00ax" || y != "\x00bh" || !ok {
		t.Errorf("%q %q %v", x, y, ok)
	}
	x, y, ok = clash.Leaves(32, []string{"a"}, []string{"b"})
	if x != "" || y != "" || ok {
		t.Errorf("%q %q %v", x, y, ok)
	}
}

// 17.2, 17.4
func TestLeavesOfOneShape(t *testing.T) {
	l := []string{"p", "q", "r", "s", "t", "u", "v"}
	for i := range l {
		for j := i; j < len(l); j++ {
			m := slices.Clone(l)
			m[i] = alike(l[i], "x")
			m[j] = alike(l[j], "y")
			x, y, ok := clash.Leaves(1, l, m)
			if x != "\x00"+l[i] || y != "\x00"+m[i] || !ok {
				t.Errorf("leaves %d and %d: %q %q %v", i, j, x, y, ok)
			}
			x, y, ok = clash.Leaves(1, m, l)
			if y != "\x00"+l[i] || x != "\x00"+m[i] || !ok {
				t.Errorf("leaves %d and %d, turned: %q %q %v", i, j, x, y, ok)
			}
			if x, y, ok := clash.Leaves(2, l, m); ok || x != "" || y != "" {
				t.Errorf("leaves %d and %d, width 2: %q %q", i, j, x, y)
			}
		}
	}
	for _, m := range [][]string{nil, {"a"}, l} {
		if x, y, ok := clash.Leaves(1, m, slices.Clone(m)); ok || x != "" || y != "" {
			t.Errorf("the same: %q %q", x, y)
		}
	}
}

// first does what 17.2 says, by positions.
func first(w int, a, b []string) (string, string, bool) {
	text := func(l []string) string {
		switch len(l) {
		case 0:
			return ""
		case 1:
			return "\x00" + l[0]
		}
		k := merkle.Cut(len(l))
		return "\x01" + merkle.Root(w, sums(w, l[:k])...) + merkle.Root(w, sums(w, l[k:])...)
	}
	if x, y := text(a), text(b); x != y {
		return x, y, true
	}
	if len(a) < 2 || len(b) < 2 {
		return "", "", false
	}
	k, m := merkle.Cut(len(a)), merkle.Cut(len(b))
	if x, y, ok := first(w, a[:k], b[:m]); ok {
		return x, y, true
	}
	return first(w, a[k:], b[m:])
}

// 17.2, 17.4
func TestLeavesOfOtherShapes(t *testing.T) {
	found, kinds := 0, map[[2]byte]int{}
	for i := range 6000 {
		var a, b []string
		for j := range i % 6 {
			a = append(a, strconv.Itoa(i*7+j))
		}
		for j := range i / 6 % 7 {
			b = append(b, strconv.Itoa(i*11+j/2))
		}
		x, y, ok := clash.Leaves(1, a, b)
		same := merkle.Root(1, sums(1, a)...) == merkle.Root(1, sums(1, b)...) && !slices.Equal(a, b)
		if ok != same {
			t.Fatalf("%q %q: %v", a, b, ok)
		}
		if !ok {
			if x != "" || y != "" {
				t.Fatal("not zero")
			}
			continue
		}
		found++
		wx, wy, _ := first(1, a, b)
		if x != wx || y != wy || !clash.Valid(1, x, y) {
			t.Errorf("%q %q: %q %q, not %q %q", a, b, x, y, wx, wy)
		}
		kinds[[2]byte{(x + "\x02")[0], (y + "\x02")[0]}]++
	}
	if found < 10 || len(kinds) < 6 {
		t.Error(found, kinds)
	}
}

// 17.3, 17.4
func TestClaims(t *testing.T) {
	l := []string{"p", "q", "r", "s", "t", "u", "v"}
	for i := range l {
		good, _ := merkle.Proof(1, i, sums(1, l)...)
		a := clash.Claim{Data: l[i], Proof: good}
		b := clash.Claim{Data: alike(l[i], "z"), Proof: slices.Clone(good)}
		x, y, ok := clash.Claims(1, i, 7, a, b)
		if x != "\x00"+a.Data || y != "\x00"+b.Data || !ok {
			t.Errorf("leaf %d: %q %q %v", i, x, y, ok)
		}
		if x, y, ok := clash.Claims(1, i, 7, a, a); ok || x != "" || y != "" {
			t.Error("one claim")
		}
		if _, _, ok := clash.Claims(2, i, 7, a, b); ok {
			t.Error("another width")
		}
		if _, _, ok := clash.Claims(1, i, 7, a, clash.Claim{Data: b.Data, Proof: good[1:]}); ok {
			t.Error("a sum is missing")
		}
		if _, _, ok := clash.Claims(1, i, 7, clash.Claim{Data: b.Data}, a); ok {
			t.Error("no sums")
		}
	}
	for _, x := range [][2]int{{-1, 7}, {7, 7}, {0, 0}, {0, -1}, {0, math.MinInt}, {math.MaxInt, math.MaxInt}} {
		if _, _, ok := clash.Claims(1, x[0], x[1], clash.Claim{Data: "a"}, clash.Claim{Data: alike("a", "b")}); ok {
			t.Errorf("leaf %d of %d", x[0], x[1])
		}
	}
	if x, y, ok := clash.Claims(1, 0, 1, clash.Claim{Data: "a"}, clash.Claim{Data: alike("a", "b")}); x != "\x00a" || y != "\x00"+alike("a", "b") || !ok {
		t.Error("a single leaf")
	}
}

// 17.3: claims that meet only further up.
func TestClaimsFurtherUp(t *testing.T) {
	levels := map[int]int{}
	for i := range 20000 {
		at, n := i%5, 5
		way := merkle.Way(at, n)
		var a, b clash.Claim
		a.Data, b.Data = "a"+strconv.Itoa(i), "b"+strconv.Itoa(i*3)
		for j := range way {
			a.Proof = append(a.Proof, string([]byte{byte(i * (j + 3))}))
			b.Proof = append(b.Proof, string([]byte{byte(i*5 + j)}))
		}
		texts := func(c clash.Claim) ([]string, string) {
			l := []string{"\x00" + c.Data}
			s := merkle.Leaf(1, c.Data)
			for j, right := range way {
				if right {
					l = append(l, "\x01"+c.Proof[j]+s)
				} else {
					l = append(l, "\x01"+s+c.Proof[j])
				}
				s = merkle.Sum(1, l[len(l)-1])
			}
			return l, s
		}
		p, r := texts(a)
		q, r2 := texts(b)
		x, y, ok := clash.Claims(1, at, n, a, b)
		if ok != (r == r2) {
			t.Fatalf("%v %v: %v", a, b, ok)
		}
		if !ok {
			continue
		}
		k := 0
		for p[k] == q[k] || merkle.Sum(1, p[k]) != merkle.Sum(1, q[k]) {
			k++
		}
		levels[k]++
		if x != p[k] || y != q[k] || !clash.Valid(1, x, y) {
			t.Errorf("%v %v: %q %q", a, b, x, y)
		}
	}
	if len(levels) < 2 {
		t.Error(levels)
	}
}
