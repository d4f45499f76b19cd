package huff_test

import (
	"math"
	"slices"
	"testing"

	"sledge/api"
	"sledge/bits"
	"sledge/huff"
)

func cost(freq, lengths []int) int {
	n := 0
	for i, f := range freq {
		n += f * lengths[i]
	}
	return n
}

func weight(lengths []int) int {
	w := 0
	for _, n := range lengths {
		if n > 0 {
			w += 1 << (15 - n)
		}
	}
	return w
}

// least finds the smallest cost by trying all lengths in ascending order of the sorted frequencies.
func least(freq []int, limit int) int {
	var f []int
	for _, x := range freq {
		if x > 0 {
			f = append(f, x)
		}
	}
	slices.Sort(f)
	best := math.MaxInt
	var try func(i, most, left, sum int)
	try = func(i, most, left, sum int) {
		if i == len(f) {
			best = min(best, sum)
			return
		}
		for n := 1; n <= most; n++ {
			if rest := left - 1<<(15-n); rest >= 0 {
				try(i+1, n, rest, sum+f[i]*n)
			}
		}
	}
	try(0, limit, 1<<15, 0)
	return best
}

// 7.1
func TestLengths(t *testing.T) {
	for _, x := range []struct {
		freq  []int
		limit int
		want  []int
	}{
		{[]int{1, 1, 2, 4}, 15, []int{3, 3, 2, 1}},
		{[]int{1, 1, 2, 4}, 2, []int{2, 2, 2, 2}},
		{[]int{1, 1, 2, 4, 8}, 3, []int{3, 3, 3, 3, 1}},
		{[]int{0, 7, 0}, 1, []int{0, 1, 0}},
		{[]int{0, 7, 0, 9}, 1, []int{0, 1, 0, 1}},
		{[]int{1 << 32, 1, 1 << 32}, 15, []int{2, 2, 1}},
		{[]int{0, 0}, 3, []int{0, 0}},
		{nil, 3, nil},
		{[]int{0}, 15, []int{0}},
	} {
		got, e := huff.Lengths(x.freq, x.limit)
		if e != api.OK || len(got) != len(x.want) || len(got) > 0 && cost(x.freq, got) != cost(x.freq, x.want) {
			t.Errorf("Lengths(%d, %d) = %d %d", x.freq, x.limit, got, e)
		}
		if x.limit != 15 && !slices.Equal(got, x.want) {
			t.Errorf("Lengths(%d, %d) = %d", x.freq, x.limit, got)
		}
	}
}

// 7.1
func TestLengthsAreOptimal(t *testing.T) {
	n := 99
	for round := range 400 {
		freq := make([]int, 1+round%8)
		for i := range freq {
			n = n*6364136223846793005 + 1442695040888963407
			freq[i] = (n >> 33 & 0xffff) % []int{2, 5, 20, 300}[round/100]
			if round%7 == 3 {
				freq[i] = 1 << (i * 3)
			}
		}
		for limit := 1; limit <= 7; limit++ {
			positive := 0
			for _, f := range freq {
				if f > 0 {
					positive++
				}
			}
			got, e := huff.Lengths(freq, limit)
			if positive > 1<<limit {
				if e != api.ErrFull || len(got) > 0 {
					t.Errorf("Lengths(%d, %d): %d", freq, limit, e)
				}
				continue
			}
			if e != api.OK || len(got) != len(freq) {
				t.Fatalf("Lengths(%d, %d) = %d %d", freq, limit, got, e)
			}
			for i, l := range got {
				if l < 0 || l > limit || (l == 0) != (freq[i] == 0) {
					t.Errorf("Lengths(%d, %d) = %d", freq, limit, got)
				}
			}
			if w := weight(got); positive > 1 && w != 1<<15 || positive == 1 && w != 1<<14 {
				t.Errorf("Lengths(%d, %d) = %d: weight %d", freq, limit, got, w)
			}
			if c := cost(freq, got); positive > 0 && c != least(freq, limit) {
				t.Errorf("Lengths(%d, %d) = %d: cost %d, not %d", freq, limit, got, c, least(freq, limit))
			}
			if again, _ := huff.Lengths(freq, limit); !slices.Equal(again, got) {
				t.Errorf("Lengths(%d, %d): others", freq, limit)
			}
		}
	}
}

// 7.1
func TestManyLengths(t *testing.T) {
	fib := make([]int, 46)
	a, b := 1, 1
	for i := range fib {
		fib[i] = a
		a, b = b, a+b
	}
	got, e := huff.Lengths(fib, 15)
	if e != api.OK || weight(got) != 1<<15 || slices.Max(got) != 15 {
		t.Errorf("%d %d", got, e)
	}
	all := slices.Repeat([]int{3}, 320)
	keep := slices.Clone(all)
	got, e = huff.Lengths(all, 9)
	if e != api.OK || weight(got) != 1<<15 || cost(all, got) != 3*(192*8+128*9) || !slices.Equal(all, keep) {
		t.Errorf("%d %d", got, e)
	}
	for n := 2; n <= 320; n += 3 {
		freq := make([]int, n)
		for i := range freq {
			freq[i] = 1 + i*i*i%(1+n%7)*(n%5)
		}
		for limit := 9; limit <= 15; limit += 2 {
			got, e := huff.Lengths(freq, limit)
			if e != api.OK || weight(got) != 1<<15 || slices.Max(got) > limit || slices.Min(got) < 1 {
				t.Errorf("%d frequencies, limit %d: %d %d", n, limit, weight(got), e)
			}
		}
	}
	if got, e = huff.Lengths(slices.Repeat([]int{1}, 256), 8); e != api.OK || slices.Min(got) != 8 || slices.Max(got) != 8 {
		t.Errorf("%d %d", got, e)
	}
}

// 7.1
func TestLengthsErrors(t *testing.T) {
	for _, x := range []struct {
		freq  []int
		limit int
		e     api.Errno
	}{
		{[]int{1}, 0, api.ErrArg}, {[]int{1}, 16, api.ErrArg}, {[]int{1}, -1, api.ErrArg}, {nil, math.MaxInt, api.ErrArg},
		{make([]int, 320), 15, api.OK}, {make([]int, 321), 15, api.ErrArg}, {[]int{-1}, 15, api.ErrArg},
		{[]int{1 << 32}, 15, api.OK}, {[]int{1<<32 + 1}, 15, api.ErrArg}, {[]int{1, 1, 1, -1}, 1, api.ErrArg}, {[]int{math.MaxInt, math.MinInt}, 1, api.ErrArg},
		{[]int{1, 1, 1}, 1, api.ErrFull}, {[]int{1, 0, 1}, 1, api.OK}, {slices.Repeat([]int{1}, 257), 8, api.ErrFull},
	} {
		got, e := huff.Lengths(x.freq, x.limit)
		if e != x.e || e != api.OK && len(got) > 0 {
			t.Errorf("%d frequencies, limit %d: %d %d", len(x.freq), x.limit, got, e)
		}
	}
}

// 7.2
func TestCodes(t *testing.T) {
	for _, x := range []struct {
		lengths, codes []int
		e              api.Errno
	}{
		{[]int{3, 3, 3, 3, 3, 2, 4, 4}, []int{2, 3, 4, 5, 6, 0, 14, 15}, api.OK},
		{[]int{3, 3, 2, 1}, []int{6, 7, 2, 0}, api.OK},
		{[]int{0, 2, 0, 15, 2}, []int{0, 0, 0, 1 << 14, 1}, api.OK},
		{[]int{1}, []int{0}, api.OK}, {[]int{0, 0}, []int{0, 0}, api.OK}, {nil, nil, api.OK},
		{[]int{1, 1}, []int{0, 1}, api.OK}, {[]int{15}, []int{0}, api.OK},
		{[]int{1, 1, 15}, nil, api.ErrForm}, {[]int{1, 1, 1}, nil, api.ErrForm},
		{[]int{1, 1, 1, 16}, nil, api.ErrArg}, {[]int{-1}, nil, api.ErrArg}, {[]int{16}, nil, api.ErrArg}, {[]int{math.MaxInt}, nil, api.ErrArg},
		{make([]int, 320), make([]int, 320), api.OK}, {make([]int, 321), nil, api.ErrArg}, {slices.Repeat([]int{1}, 321), nil, api.ErrArg},
	} {
		codes, e := huff.Codes(x.lengths)
		if e != x.e || !slices.Equal(codes, x.codes) {
			t.Errorf("Codes(%d) = %d %d", x.lengths, codes, e)
		}
	}
}

// 7.3
func TestNew(t *testing.T) {
	for _, x := range []struct {
		lengths []int
		e       api.Errno
	}{
		{[]int{1, 1}, api.OK}, {[]int{3, 3, 2, 1}, api.OK}, {nil, api.OK}, {make([]int, 320), api.OK}, {[]int{0, 1, 0}, api.OK},
		{[]int{2}, api.ErrForm}, {[]int{15}, api.ErrForm}, {[]int{1, 2}, api.ErrForm}, {[]int{2, 2, 2}, api.ErrForm}, {[]int{1, 1, 1}, api.ErrForm},
		{[]int{1, 1, 2}, api.ErrForm}, {[]int{1, 1, 17}, api.ErrArg}, {[]int{-1}, api.ErrArg}, {make([]int, 321), api.ErrArg}, {slices.Repeat([]int{1}, 321), api.ErrArg},
	} {
		table, e := huff.New(x.lengths)
		if e != x.e || (table != nil) != (e == api.OK) {
			t.Errorf("New(%d): %v %d", x.lengths, table, e)
		}
	}
}

// 7.3
func TestDecode(t *testing.T) {
	table, _ := huff.New([]int{3, 0, 3, 2, 1})
	var w bits.Writer
	w.Code(6, 3)
	w.Code(7, 3)
	w.Code(2, 2)
	w.Code(0, 1)
	w.Put(1, 2) // the code 10, and seven bits 0 to the end of the byte after it
	r := bits.New(w.Bytes())
	for i, want := range []int{0, 2, 3, 4, 3, 4, 4, 4, 4, 4} {
		if sym, e := table.Decode(r); sym != want || e != api.OK {
			t.Errorf("symbol %d: %d %d", i, sym, e)
		}
	}
	if sym, e := table.Decode(r); sym != 0 || e != api.ErrForm {
		t.Errorf("at the end: %d %d", sym, e)
	}
	r = bits.New("\xff")
	r.Take(6)
	if sym, e := table.Decode(r); sym != 0 || e != api.ErrForm || r.Left() != 0 {
		t.Errorf("within a code: %d %d, %d left", sym, e, r.Left())
	}
	one, _ := huff.New([]int{0, 1})
	r = bits.New("\x02\xff\xff\xff")
	if sym, e := one.Decode(r); sym != 1 || e != api.OK || r.Used() != 1 {
		t.Errorf("single: %d %d", sym, e)
	}
	if sym, e := one.Decode(r); sym != 0 || e != api.ErrForm || r.Used() != 16 {
		t.Errorf("no code of a single one: %d %d, %d used", sym, e, r.Used())
	}
	empty, _ := huff.New(nil)
	r = bits.New("\x00\x00\x00")
	if sym, e := empty.Decode(r); sym != 0 || e != api.ErrForm || r.Used() != 15 {
		t.Errorf("without codes: %d %d, %d used", sym, e, r.Used())
	}
	var none *huff.Table
	if sym, e := none.Decode(r); sym != 0 || e != api.ErrForm || r.Used() != 15 {
		t.Errorf("nil table: %d %d", sym, e)
	}
	if sym, e := table.Decode(nil); sym != 0 || e != api.ErrForm {
		t.Errorf("nil reader: %d %d", sym, e)
	}
}

// R4: a table does not retain the lengths, and nothing behind them is touched.
func TestMemory(t *testing.T) {
	l := []int{3, 0, 3, 2, 1, 15, 15}
	table, _ := huff.New(l[:5])
	codes, e := huff.Codes(l[:5])
	if e != api.OK || len(codes) != 5 {
		t.Error(e)
	}
	for i := range 5 {
		l[i] = 1
	}
	var w bits.Writer
	w.Code(7, 3)
	if sym, e := table.Decode(bits.New(w.Bytes())); sym != 2 || e != api.OK {
		t.Error("retained", sym, e)
	}
	freq := []int{5, 1, 1, -1}
	got, e := huff.Lengths(freq[:3], 15)
	if e != api.OK || !slices.Equal(freq, []int{5, 1, 1, -1}) || len(append(got, 9)) != 4 {
		t.Error("changed", e)
	}
}

// 7.4
func TestRoundTrip(t *testing.T) {
	freq := make([]int, 320)
	for i := range freq {
		freq[i] = i * i % 97 * (i % 5)
	}
	lengths, e := huff.Lengths(freq, 11)
	codes, e2 := huff.Codes(lengths)
	table, e3 := huff.New(lengths)
	if e != api.OK || e2 != api.OK || e3 != api.OK {
		t.Fatal(e, e2, e3)
	}
	for a, n := range lengths {
		for b, m := range lengths {
			if a != b && n > 0 && m >= n && codes[b]>>(m-n) == codes[a] {
				t.Errorf("the code of %d begins with that of %d", b, a)
			}
		}
	}
	var w bits.Writer
	for sym, n := range lengths {
		if n > 0 {
			w.Code(codes[sym], n)
		}
	}
	r := bits.New(w.Bytes())
	for sym, n := range lengths {
		if n > 0 {
			if got, e := table.Decode(r); got != sym || e != api.OK {
				t.Fatalf("%d is read as %d, %d", sym, got, e)
			}
		}
	}
}
