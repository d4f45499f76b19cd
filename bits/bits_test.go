package bits_test

import (
	"math"
	"testing"

	"sledge/bits"
)

// 6.1
func TestPut(t *testing.T) {
	for _, x := range []struct {
		v, n, bits int
		bytes      string
	}{
		{5, 3, 3, "\x05"}, {5, 2, 2, "\x01"}, {0, 1, 1, "\x00"}, {1, 0, 0, ""}, {1, -3, 0, ""}, {1, math.MinInt, 0, ""},
		{0x1ff, 9, 9, "\xff\x01"}, {0x1234, 16, 16, "\x34\x12"}, {-1, 10, 10, "\xff\x03"},
		{-1, 62, 62, "\xff\xff\xff\xff\xff\xff\xff\x3f"}, {-1, 63, 62, "\xff\xff\xff\xff\xff\xff\xff\x3f"},
		{1 << 61, math.MaxInt, 62, "\x00\x00\x00\x00\x00\x00\x00\x20"}, {1 << 62, 62, 62, "\x00\x00\x00\x00\x00\x00\x00\x00"},
	} {
		var w bits.Writer
		w.Put(x.v, x.n)
		if w.Bytes() != x.bytes || w.Len() != x.bits {
			t.Errorf("Put(%d, %d): %x, %d bits", x.v, x.n, w.Bytes(), w.Len())
		}
	}
	var w bits.Writer
	w.Put(5, 3)
	w.Put(1, 2)
	if w.Bytes() != "\x0d" || w.Len() != 5 {
		t.Errorf("%x", w.Bytes())
	}
}

// 6.1
func TestCode(t *testing.T) {
	for _, x := range []struct {
		v, n, bits int
		bytes      string
	}{
		{6, 3, 3, "\x03"}, {1, 3, 3, "\x04"}, {13, 3, 3, "\x05"}, {1, 0, 0, ""}, {1, -1, 0, ""}, {0x102, 9, 9, "\x81\x00"},
		{1, 62, 62, "\x00\x00\x00\x00\x00\x00\x00\x20"}, {1, 70, 62, "\x00\x00\x00\x00\x00\x00\x00\x20"}, {-2, 9, 9, "\xff\x00"},
	} {
		var w bits.Writer
		w.Code(x.v, x.n)
		if w.Bytes() != x.bytes || w.Len() != x.bits {
			t.Errorf("Code(%d, %d): %x, %d bits", x.v, x.n, w.Bytes(), w.Len())
		}
	}
}

// 6.1
func TestWriterAlign(t *testing.T) {
	var w bits.Writer
	w.Align()
	if w.Len() != 0 || w.Bytes() != "" {
		t.Error("aligned at the beginning")
	}
	w.Put(1, 1)
	w.Align()
	if w.Len() != 8 || w.Bytes() != "\x01" {
		t.Errorf("%d %x", w.Len(), w.Bytes())
	}
	w.Align()
	w.Text("ab")
	if w.Len() != 24 || w.Bytes() != "\x01ab" {
		t.Errorf("%d %x", w.Len(), w.Bytes())
	}
	w.Put(3, 2)
	w.Text("")
	w.Put(1, 1)
	w.Text("c")
	w.Code(1, 2)
	if w.Len() != 50 || w.Bytes() != "\x01ab\x03\x01c\x02" {
		t.Errorf("%d %x", w.Len(), w.Bytes())
	}
}

// 6.2
func TestTake(t *testing.T) {
	r := bits.New("\x0d\xff\x00\x80")
	for _, x := range []struct {
		n, v, used int
		ok         bool
	}{
		{0, 0, 0, true}, {3, 5, 3, true}, {2, 1, 5, true}, {-1, 0, 5, false}, {63, 0, 5, false}, {28, 0, 5, false},
		{math.MaxInt, 0, 5, false}, {math.MinInt, 0, 5, false}, {5, 24, 10, true}, {22, 0x8000ff0d >> 10, 32, true},
		{1, 0, 32, false}, {0, 0, 32, true},
	} {
		v, ok := r.Take(x.n)
		if v != x.v || ok != x.ok || r.Used() != x.used || r.Left() != 32-x.used {
			t.Errorf("Take(%d) = %d %v, %d used, %d left", x.n, v, ok, r.Used(), r.Left())
		}
	}
	r = bits.New("\xff\xff\xff\xff\xff\xff\xff\xff")
	if v, ok := r.Take(63); v != 0 || ok || r.Used() != 0 {
		t.Error("63 of 64 bits")
	}
	if v, ok := r.Take(62); v != 1<<62-1 || !ok || r.Left() != 2 {
		t.Error("62 of 64 bits")
	}
	r = bits.New("")
	if v, ok := r.Take(1); v != 0 || ok {
		t.Error("Take(1) at the end")
	}
	if v, ok := r.Take(0); v != 0 || !ok {
		t.Error("Take(0) at the end")
	}
}

// 6.2
func TestReaderAlignAndText(t *testing.T) {
	r := bits.New("abcdef")
	r.Align()
	if r.Used() != 0 {
		t.Error("aligned at the beginning")
	}
	r.Take(3)
	for _, n := range []int{-1, 6, math.MaxInt, math.MinInt} {
		if s, ok := r.Text(n); s != "" || ok || r.Used() != 3 {
			t.Errorf("Text(%d): %q %v, %d used", n, s, ok, r.Used())
		}
	}
	if s, ok := r.Text(2); s != "bc" || !ok || r.Used() != 24 {
		t.Errorf("%q %v %d", s, ok, r.Used())
	}
	r.Take(1)
	if s, ok := r.Text(0); s != "" || !ok || r.Used() != 32 {
		t.Errorf("%q %v %d", s, ok, r.Used())
	}
	r.Take(8)
	r.Align()
	if r.Used() != 40 || r.Left() != 8 {
		t.Error("aligned at a boundary")
	}
	r.Take(1)
	r.Align()
	if r.Used() != 48 || r.Left() != 0 {
		t.Error("aligned to the end")
	}
	if s, ok := r.Text(1); s != "" || ok {
		t.Error("Text(1) at the end")
	}
	if s, ok := r.Text(0); s != "" || !ok {
		t.Error("Text(0) at the end")
	}
}

// 6.2, P1
func TestNil(t *testing.T) {
	var w *bits.Writer
	w.Put(1, 1)
	w.Code(1, 1)
	w.Align()
	w.Text("a")
	if w.Len() != 0 || w.Bytes() != "" {
		t.Error("writer")
	}
	var r *bits.Reader
	r.Align()
	v, ok := r.Take(0)
	s, ok2 := r.Text(0)
	if v != 0 || ok || s != "" || ok2 || r.Left() != 0 || r.Used() != 0 {
		t.Error("reader")
	}
}

// 6.3
func TestRoundTrip(t *testing.T) {
	var w bits.Writer
	n := 1
	next := func() int { n = n*6364136223846793005 + 1442695040888963407; return n >> 8 }
	var want []int
	for i := range 500 {
		v := next()
		w.Put(v, i%63)
		want = append(want, v&(1<<(i%63)-1))
		if i%50 == 49 {
			w.Text("text")
		}
	}
	bytes := w.Bytes()
	if w.Bytes() != bytes || len(bytes) != (w.Len()+7)/8 {
		t.Error("bytes")
	}
	r := bits.New(bytes)
	for i, v := range want {
		if got, ok := r.Take(i % 63); got != v || !ok {
			t.Fatalf("integer %d: %d, want %d", i, got, v)
		}
		if i%50 == 49 {
			if s, ok := r.Text(4); s != "text" || !ok {
				t.Fatalf("text at %d: %q", i, s)
			}
		}
	}
	if r.Left() != 0 {
		t.Error("left over")
	}
}
