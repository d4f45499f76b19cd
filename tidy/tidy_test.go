package tidy_test

import (
	"slices"
	"strings"
	"testing"

	"sledge/api"
	"sledge/archive"
	"sledge/bitset"
	"sledge/catalog"
	"sledge/depot"
	"sledge/disk"
	"sledge/journal"
	"sledge/tidy"
)

func noise(n, seed int) string {
	b := make([]byte, n)
	x := n + seed
	for i := range b {
		x = x*6364136223846793005 + 1442695040888963407
		b[i] = byte(x >> 40)
	}
	return string(b)
}

func packed(t *testing.T, id, n int) api.Archive {
	t.Helper()
	a, e := archive.Pack("secret", "0123456789abcdef", id, api.File{Path: "f", Data: noise(n*192-20, id)})
	if e != api.OK || a.Head.N != n {
		t.Fatal(e, a.Head.N)
	}
	return a
}

type layout struct {
	sector, base int
	a            api.Archive
	staged       []int // for a record
}

// laid is a disk with archives in these places.
func laid(t *testing.T, size int, l ...layout) *disk.Disk {
	t.Helper()
	d, e := disk.New(size)
	if e != api.OK {
		t.Fatal(e)
	}
	for _, x := range l {
		extent := api.Extent{Head: x.a.Head, Base: x.base}
		s, e := catalog.Put(extent)
		if x.sector < 5 {
			got := bitset.New(x.a.Head.N)
			for _, i := range x.staged {
				got = got.With(i)
			}
			s, e = journal.Put(journal.Record{Extent: extent, Got: got})
		}
		if e != api.OK || d.Write(x.sector, s) != api.OK {
			t.Fatal(e)
		}
		for i, b := range x.a.Blocks {
			d.Write(x.base+i, b+"behind "+b[:5])
		}
	}
	d.Sync()
	return d
}

func moved(t *testing.T, d *disk.Disk, want ...tidy.Move) {
	t.Helper()
	got, e := tidy.Run(d, "secret")
	if !slices.Equal(got, want) || e != api.OK || len(d.Unsynced()) > 0 {
		t.Errorf("%v %d, not %v", got, e, want)
	}
	if again, e := tidy.Run(d, "secret"); len(again) > 0 || e != api.OK {
		t.Errorf("the second time %v %d", again, e)
	}
}

func keeps(t *testing.T, d *disk.Disk, l ...api.Archive) {
	t.Helper()
	p, e := depot.Open(d, "secret")
	if e != api.OK {
		t.Fatal(e)
	}
	if len(p.Kept()) != len(l) {
		t.Errorf("%d kept, not %d", len(p.Kept()), len(l))
	}
	for _, a := range l {
		if got, e := p.Read(a.Head.ID); !archive.Same(got, a) || e != api.OK {
			t.Errorf("archive %d: %d", a.Head.ID, e)
		}
	}
}

// 42.1
func TestRun(t *testing.T) {
	a, b, c, e := packed(t, 1, 2), packed(t, 2, 3), packed(t, 3, 5), packed(t, 4, 1)
	d := laid(t, 40, layout{5, 20, a, nil})
	d.Write(30, "stray")
	d.Sync()
	moved(t, d, tidy.Move{Sector: 5, From: 20, To: 13})
	if s, _ := d.Read(14); !strings.HasPrefix(s, a.Blocks[1]+"behind "+a.Blocks[1][:5]) {
		t.Error("a sector is copied as a whole")
	}
	if s, _ := d.Read(21); !strings.HasPrefix(s, a.Blocks[1]) {
		t.Error("the old sectors were written")
	}
	if s, _ := d.Read(30); !strings.HasPrefix(s, "stray") {
		t.Error("another sector was written")
	}
	keeps(t, d, a)

	d = laid(t, 60, layout{12, 50, a, nil}, layout{5, 30, b, nil}, layout{7, 15, c, nil}, layout{6, 22, e, nil})
	moved(t, d, tidy.Move{Sector: 6, From: 22, To: 13}, tidy.Move{Sector: 5, From: 30, To: 20}, tidy.Move{Sector: 12, From: 50, To: 23})
	keeps(t, d, a, b, c, e)

	// Two sectors before one of three are too few; a record stays.
	d = laid(t, 60, layout{5, 15, b, nil}, layout{2, 18, c, []int{0, 3}}, layout{6, 40, a, nil})
	moved(t, d, tidy.Move{Sector: 6, From: 40, To: 13})
	keeps(t, d, a, b)
	p, _ := depot.Open(d, "secret")
	if got, e := p.Got(3); got != bitset.New(5).With(0).With(3) || e != api.OK {
		t.Error("the record", e)
	}
	if s, e := p.Block(3, 3); s != c.Blocks[3] || e != api.OK {
		t.Error("a staged block", e)
	}

	// Room is made by a move.
	d = laid(t, 60, layout{5, 14, a, nil}, layout{6, 16, b, nil}, layout{7, 30, c, nil})
	moved(t, d, tidy.Move{Sector: 7, From: 30, To: 19})
	d = laid(t, 60, layout{5, 15, a, nil}, layout{6, 17, b, nil})
	moved(t, d, tidy.Move{Sector: 5, From: 15, To: 13})
	d = laid(t, 60, layout{5, 16, b, nil}, layout{6, 19, a, nil}, layout{7, 22, c, nil})
	moved(t, d, tidy.Move{Sector: 5, From: 16, To: 13}, tidy.Move{Sector: 6, From: 19, To: 16})
}

// 42.1: what a depot does not find is not moved, and is no obstacle.
func TestNotAcceptable(t *testing.T) {
	a, b, c := packed(t, 1, 2), packed(t, 2, 3), packed(t, 3, 5)
	other := api.Archive{Head: b.Head, Blocks: b.Blocks}
	other.Head.Tag = strings.Repeat("t", 32)
	d := laid(t, 60, layout{5, 13, other, nil}, layout{6, 30, c, nil}, layout{8, 12, a, nil}, layout{1, 58, b, []int{0}}, layout{2, 40, other, []int{1}}, layout{9, 50, c, nil})
	before := make([]string, 13)
	for i := range before {
		before[i], _ = d.Read(i)
	}
	moved(t, d, tidy.Move{Sector: 6, From: 30, To: 13})
	for i := range before {
		if s, _ := d.Read(i); (s != before[i]) != (i == 6) {
			t.Errorf("sector %d", i)
		}
	}
	d = laid(t, 60, layout{6, 30, c, nil})
	if l, e := tidy.Run(d, "other"); len(l) > 0 || e != api.OK {
		t.Error("another secret", l, e)
	}
}

// 42.1: where an extent may lie, and beside what.
func TestPlaces(t *testing.T) {
	a, b, c := packed(t, 1, 2), packed(t, 2, 3), packed(t, 3, 5)
	d := laid(t, 40, layout{5, 37, b, nil})
	moved(t, d, tidy.Move{Sector: 5, From: 37, To: 13})
	keeps(t, d, b)
	d = laid(t, 40, layout{5, 38, b, nil}, layout{6, 20, a, nil})
	moved(t, d, tidy.Move{Sector: 6, From: 20, To: 13})
	d = laid(t, 40, layout{5, 12, b, nil}, layout{6, 20, a, nil}, layout{1, 11, c, []int{0}})
	moved(t, d, tidy.Move{Sector: 6, From: 20, To: 13})
	// The same archive a second time.
	d = laid(t, 40, layout{5, 13, a, nil}, layout{6, 30, a, nil}, layout{7, 20, b, nil}, layout{2, 15, b, []int{0}})
	moved(t, d, tidy.Move{Sector: 7, From: 20, To: 15})
	// A record that has no header with a right tag is no obstacle.
	wrong := api.Archive{Head: c.Head}
	wrong.Head.Tag = strings.Repeat("t", 32)
	d = laid(t, 40, layout{1, 13, wrong, []int{0}}, layout{7, 20, b, nil})
	moved(t, d, tidy.Move{Sector: 7, From: 20, To: 13})
}

// 42.1
func TestErrors(t *testing.T) {
	small, _ := disk.New(12)
	for _, d := range []*disk.Disk{small, nil} {
		if l, e := tidy.Run(d, "secret"); len(l) > 0 || e != api.ErrArg {
			t.Error("a small disk", e)
		}
	}
	a, b := packed(t, 1, 2), packed(t, 2, 3)
	for fuse := range 13 {
		d := laid(t, 60, layout{5, 20, a, nil}, layout{6, 30, b, nil})
		d.Fuse(fuse)
		l, e := tidy.Run(d, "secret")
		var want []tidy.Move
		wantE := api.ErrPower
		if fuse >= 5 {
			want = append(want, tidy.Move{Sector: 5, From: 20, To: 13})
		}
		if fuse >= 11 {
			want, wantE = append(want, tidy.Move{Sector: 6, From: 30, To: 15}), api.OK
		}
		if !slices.Equal(l, want) || e != wantE {
			t.Errorf("fuse %d: %v %d", fuse, l, e)
		}
	}
	d := laid(t, 60, layout{5, 20, a, nil})
	d.Fuse(0)
	d.Sync()
	if l, e := tidy.Run(d, "secret"); len(l) > 0 || e != api.ErrPower {
		t.Error("no power", e)
	}
}

// 42.2
func TestCrashes(t *testing.T) {
	a, b, c := packed(t, 1, 2), packed(t, 2, 3), packed(t, 3, 4)
	for fuse := range 16 {
		for bits := range 32 {
			d := laid(t, 60, layout{5, 17, a, nil}, layout{6, 30, b, nil}, layout{3, 20, c, []int{0, 2}})
			d.Fuse(fuse)
			l, _ := tidy.Run(d, "secret")
			d.Crash(bits)
			keeps(t, d, a, b)
			p, e := depot.Open(d, "secret")
			if e != api.OK {
				t.Fatal(e)
			}
			if got, e := p.Got(3); got != bitset.New(4).With(0).With(2) || e != api.OK {
				t.Error("the record", e)
			}
			for _, i := range []int{0, 2} {
				if s, e := p.Block(3, i); s != c.Blocks[i] || e != api.OK {
					t.Error("a staged block", e)
				}
			}
			for _, m := range l {
				s, _ := d.Read(m.Sector)
				if x, e := catalog.Take(s); e != api.OK || x.Base != m.To {
					t.Error("a move that was performed", e)
				}
			}
			if _, e := tidy.Run(d, "secret"); e != api.OK {
				t.Error(e)
			}
			if again, e := tidy.Run(d, "secret"); len(again) > 0 || e != api.OK {
				t.Error("a next move", again, e)
			}
			keeps(t, d, a, b)
		}
	}
}
