package epoch_test

import (
	"math"
	"strings"
	"testing"

	"sledge/api"
	"sledge/disk"
	"sledge/epoch"
)

func sector(s string) string { return s + strings.Repeat("\x00", 256-len(s)) }

func check(t *testing.T, what string, n int, e api.Errno, want int, wantE api.Errno) {
	t.Helper()
	if n != want || e != wantE {
		t.Errorf("%s: %d %d, not %d %d", what, n, e, want, wantE)
	}
}

// 21.1
func TestNext(t *testing.T) {
	d, _ := disk.New(3)
	n, e := epoch.Last(d, 1)
	check(t, "blank", n, e, 0, api.OK)
	for want := 1; want < 300; want++ {
		n, e := epoch.Next(d, 1)
		check(t, "next", n, e, want, api.OK)
		n, e = epoch.Last(d, 1)
		check(t, "last", n, e, want, api.OK)
		s, _ := d.Read(1)
		if s != sector("SLE1\x00\x00"+string([]byte{byte(want >> 8), byte(want)})) || len(d.Unsynced()) > 0 {
			t.Fatalf("%x", s)
		}
	}
	if n, e := epoch.Next(d, 0); n != 1 || e != api.OK {
		t.Error("another sector")
	}
	if s, _ := d.Read(2); s != sector("") {
		t.Error("another sector was written")
	}
}

// 21.1
func TestErrors(t *testing.T) {
	for _, x := range []struct {
		s    string
		last int
		e    api.Errno
		next int
		e2   api.Errno
	}{
		{"SLE1\x00\x00\x00\x01", 1, api.OK, 2, api.OK}, {"SLE1\x01\x00\x00\x00", 1 << 24, api.OK, 1<<24 + 1, api.OK}, {"SLE1\xff\xff\xff\xfe", epoch.Most - 1, api.OK, epoch.Most, api.OK}, {"SLE1\xff\xff\xff\xff", epoch.Most, api.OK, 0, api.ErrFull},
		{"SLE1\x00\x00\x01\x00", 256, api.OK, 257, api.OK}, {"SLE1", 0, api.ErrForm, 0, api.ErrForm}, {"SLE1\x00\x00\x00\x01\x01", 0, api.ErrForm, 0, api.ErrForm}, {"SLE2\x00\x00\x00\x01", 0, api.ErrForm, 0, api.ErrForm}, {"sle1\x00\x00\x00\x01", 0, api.ErrForm, 0, api.ErrForm},
		{"x", 0, api.ErrForm, 0, api.ErrForm}, {"\x00SLE1\x00\x00\x00\x01", 0, api.ErrForm, 0, api.ErrForm}, {sector("SLE1\x00\x00\x00\x01")[:255] + "\x01", 0, api.ErrForm, 0, api.ErrForm}, {"\x00\x00\x00\x00\x00\x00\x00\x01", 0, api.ErrForm, 0, api.ErrForm}, {"SLE", 0, api.ErrForm, 0, api.ErrForm}, {"", 0, api.OK, 1, api.OK},
	} {
		d, _ := disk.New(1)
		d.Write(0, x.s)
		d.Sync()
		n, e := epoch.Last(d, 0)
		check(t, x.s, n, e, x.last, x.e)
		n, e = epoch.Next(d, 0)
		check(t, x.s, n, e, x.next, x.e2)
		if s, _ := d.Read(0); x.e2 != api.OK && s != sector(x.s) {
			t.Errorf("%q was changed", x.s)
		}
	}
	if epoch.Most != 4294967295 {
		t.Error(epoch.Most)
	}
	d, _ := disk.New(2)
	for _, i := range []int{-1, 2, math.MinInt, math.MaxInt} {
		n, e := epoch.Last(d, i)
		check(t, "range", n, e, 0, api.ErrRange)
		n, e = epoch.Next(d, i)
		check(t, "range", n, e, 0, api.ErrRange)
	}
	n, e := epoch.Last(nil, 0)
	check(t, "nil", n, e, 0, api.ErrNone)
	n, e = epoch.Next(nil, 0)
	check(t, "nil", n, e, 0, api.ErrNone)
}

// 21.1
func TestPower(t *testing.T) {
	for fuse, want := range []api.Errno{api.ErrPower, api.ErrPower, api.OK} {
		d, _ := disk.New(1)
		epoch.Next(d, 0)
		d.Fuse(fuse)
		n, e := epoch.Next(d, 0)
		if e != want || (n != 0) != (e == api.OK) {
			t.Errorf("fuse %d: %d %d", fuse, n, e)
		}
		if e == api.OK {
			n, e = epoch.Next(d, 0)
			check(t, "off", n, e, 0, api.ErrPower)
		}
		n, e = epoch.Last(d, 0)
		check(t, "off", n, e, 0, api.ErrPower)
	}
}

// 21.2
func TestNeverAgain(t *testing.T) {
	for bits := range 2 {
		d, _ := disk.New(1)
		greatest := 0
		for i := range 60 {
			d.Fuse(i % 7)
			for {
				n, e := epoch.Next(d, 0)
				if e != api.OK {
					break
				}
				if n <= greatest {
					t.Fatalf("%d after %d", n, greatest)
				}
				greatest = n
			}
			d.Crash(bits)
		}
		if greatest < 50 {
			t.Error(greatest)
		}
	}
}
