package disk_test

import (
	"math"
	"slices"
	"strings"
	"testing"

	"sledge/api"
	"sledge/disk"
)

func sector(s string) string { return s + strings.Repeat("\x00", 256-len(s)) }

func new(t *testing.T, n int) *disk.Disk {
	t.Helper()
	d, e := disk.New(n)
	if e != api.OK || d == nil {
		t.Fatal(e)
	}
	return d
}

func want(t *testing.T, d *disk.Disk, l ...string) {
	t.Helper()
	for i, s := range l {
		if got, e := d.Read(i); got != sector(s) || e != api.OK {
			t.Errorf("sector %d: %.20q %d, not %.20q", i, got, e, s)
		}
	}
}

// 20.1
func TestNew(t *testing.T) {
	for _, n := range []int{1, 2, 1024} {
		d := new(t, n)
		if d.Len() != n || d.Dead() || len(d.Unsynced()) > 0 {
			t.Error(n, d.Len())
		}
		want(t, d, make([]string, n)...)
	}
	for _, n := range []int{0, -1, 1025, math.MinInt, math.MaxInt} {
		if d, e := disk.New(n); d != nil || e != api.ErrArg {
			t.Error(n, e)
		}
	}
}

// 20.2
func TestReadAndWrite(t *testing.T) {
	d := new(t, 3)
	full := strings.Repeat("f", 256)
	for _, x := range []struct {
		i int
		s string
		e api.Errno
	}{
		{0, "a", api.OK}, {2, full, api.OK}, {1, "long", api.OK}, {1, "b", api.OK}, {3, "x", api.ErrRange}, {-1, "x", api.ErrRange}, {math.MinInt, "x", api.ErrRange}, {math.MaxInt, full + "x", api.ErrRange}, {0, full + "x", api.ErrArg},
	} {
		if e := d.Write(x.i, x.s); e != x.e {
			t.Errorf("Write(%d, %.9q): %d", x.i, x.s, e)
		}
	}
	want(t, d, "a", "b", full)
	if l := d.Unsynced(); !slices.Equal(l, []int{0, 1, 2}) {
		t.Error(l)
	}
	if e := d.Sync(); e != api.OK || len(d.Unsynced()) > 0 {
		t.Error(e)
	}
	want(t, d, "a", "b", full)
	d.Write(2, "")
	want(t, d, "a", "b", "")
	if l := d.Unsynced(); !slices.Equal(l, []int{2}) {
		t.Error(l)
	}
	for _, i := range []int{-1, 3, math.MinInt, math.MaxInt} {
		if s, e := d.Read(i); s != "" || e != api.ErrRange {
			t.Errorf("Read(%d): %q %d", i, s, e)
		}
	}
}

// 20.2, 20.3
func TestFuse(t *testing.T) {
	d := new(t, 4)
	d.Fuse(2)
	if d.Write(9, "x") != api.ErrRange || d.Write(0, strings.Repeat("x", 257)) != api.ErrArg {
		t.Error("invalid writes")
	}
	if d.Write(0, "a") != api.OK || d.Sync() != api.OK || d.Dead() {
		t.Error("the first two")
	}
	want(t, d, "a", "")
	if d.Write(9, "x") != api.ErrRange || d.Write(0, strings.Repeat("x", 257)) != api.ErrArg || d.Dead() {
		t.Error("invalid writes at the end of the fuse")
	}
	if d.Write(1, "b") != api.ErrPower || !d.Dead() {
		t.Error("the third one")
	}
	if s, e := d.Read(0); s != "" || e != api.ErrPower {
		t.Error("read", e)
	}
	if s, e := d.Read(-1); s != "" || e != api.ErrPower || d.Write(-1, "x") != api.ErrPower || d.Write(0, strings.Repeat("x", 257)) != api.ErrPower || d.Sync() != api.ErrPower {
		t.Error("off", e)
	}
	d.Fuse(-1)
	d.Fuse(5)
	if !d.Dead() || d.Write(0, "z") != api.ErrPower || d.Len() != 4 {
		t.Error("on again by a fuse")
	}
	d.Crash(0)
	if d.Dead() {
		t.Error("off after a crash")
	}
	want(t, d, "a", "", "", "")
	for range 9 {
		if d.Write(3, "c") != api.OK || d.Sync() != api.OK {
			t.Error("still fused")
		}
	}
	d.Fuse(0)
	if d.Dead() {
		t.Error("off before an operation")
	}
	d.Fuse(1)
	d.Fuse(-5)
	if d.Sync() != api.OK || d.Sync() != api.OK {
		t.Error("fused by a negative number")
	}
	d.Fuse(0)
	d.Write(0, "q")
	d.Crash(-1)
	want(t, d, "a", "", "", "c")
	d.Write(0, "r")
	d.Fuse(0)
	if d.Sync() != api.ErrPower || !slices.Equal(d.Unsynced(), []int{0}) {
		t.Error("a sync without power")
	}
	d.Crash(0)
	want(t, d, "a", "", "", "c")
}

// 20.3, 20.4
func TestCrash(t *testing.T) {
	d := new(t, 2)
	d.Write(0, "a")
	d.Sync()
	d.Write(0, "b")
	d.Write(1, "c")
	d.Crash(2)
	want(t, d, "a", "c")
	for bits := range 32 {
		d := new(t, 9)
		for i := range 9 {
			d.Write(i, "old")
		}
		d.Sync()
		for k, i := range []int{8, 3, 1, 6, 5} {
			d.Write(i, "mid"+string(rune('0'+k)))
			d.Write(i, "new")
		}
		d.Crash(bits | 1<<40)
		l := slices.Repeat([]string{"old"}, 9)
		for k, i := range []int{1, 3, 5, 6, 8} {
			if bits>>k&1 == 1 {
				l[i] = "new"
			}
		}
		want(t, d, l...)
		if len(d.Unsynced()) > 0 {
			t.Error("unsynced after a crash")
		}
		d.Crash(0)
		want(t, d, l...)
	}
}

// 20.3
func TestCrashOfMany(t *testing.T) {
	for _, bits := range []int{1, 1 << 61, 1 << 62, math.MinInt, 0b101, -1, -2, math.MaxInt, 1<<61 | 1<<3} {
		d := new(t, 200)
		for i := range 200 {
			d.Write(i, "x")
		}
		d.Crash(bits)
		for i := range 200 {
			s, _ := d.Read(i)
			if kept := s == sector("x"); kept != (bits>>(i%62)&1 == 1) {
				t.Fatalf("bits %x, sector %d: %v", bits, i, kept)
			}
		}
	}
}

// 20.3
func TestClone(t *testing.T) {
	d := new(t, 3)
	d.Write(0, "a")
	d.Sync()
	d.Write(1, "b")
	d.Fuse(2)
	c := d.Clone()
	if c.Len() != 3 || c.Dead() || !slices.Equal(c.Unsynced(), []int{1}) {
		t.Error("another state")
	}
	c.Write(0, "z")
	c.Sync()
	want(t, d, "a", "b", "")
	want(t, c, "z", "b", "")
	if !slices.Equal(d.Unsynced(), []int{1}) || len(c.Unsynced()) > 0 {
		t.Error("shared")
	}
	if c.Sync() != api.ErrPower || !c.Dead() || d.Dead() {
		t.Error("fuses")
	}
	if !c.Clone().Dead() {
		t.Error("the power of a copy")
	}
	d.Write(2, "y")
	if d.Sync() != api.OK || d.Sync() != api.ErrPower {
		t.Error("the own fuse")
	}
	d.Crash(0)
	want(t, d, "a", "b", "y")
	c.Crash(0)
	want(t, c, "z", "b", "")
}

// P1
func TestNil(t *testing.T) {
	var d *disk.Disk
	s, e := d.Read(0)
	d.Fuse(1)
	d.Crash(1)
	if s != "" || e != api.ErrNone || d.Write(0, "") != api.ErrNone || d.Write(-1, strings.Repeat("x", 300)) != api.ErrNone || d.Sync() != api.ErrNone || !d.Dead() || d.Len() != 0 || len(d.Unsynced()) > 0 || d.Clone() != nil {
		t.Error("nil", e)
	}
}
