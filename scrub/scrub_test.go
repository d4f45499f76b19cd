package scrub_test

import (
	"math"
	"slices"
	"strings"
	"testing"

	"sledge/api"
	"sledge/archive"
	"sledge/bitset"
	"sledge/catalog"
	"sledge/depot"
	"sledge/disk"
	"sledge/header"
	"sledge/journal"
	"sledge/scrub"
	"sledge/tidy"
	"sledge/world"
)

func noise(n, seed int) string {
	b := make([]byte, n)
	x := n + seed
	for i := range b {
		x = x*6364136223846793005 + 1442695040888963407
		b[i] = byte(x >> 40)
	}
	return string(b)
}

func packed(t *testing.T, id, n int) api.Archive {
	t.Helper()
	a, e := archive.Pack("secret", "0123456789abcdef", id, api.File{Path: "f", Data: noise(n*192-20, id)})
	if e != api.OK || a.Head.N != n {
		t.Fatal(e, a.Head.N)
	}
	return a
}

func opened(t *testing.T, n int) (*disk.Disk, *depot.Depot) {
	t.Helper()
	d, _ := disk.New(n)
	p, e := depot.Open(d, "secret")
	if e != api.OK {
		t.Fatal(e)
	}
	return d, p
}

func scanned(t *testing.T, d *disk.Disk, want string, faults ...scrub.Fault) {
	t.Helper()
	l, f, e := scrub.Scan(d, "secret")
	if text := scrub.Text(l); text != want || !slices.Equal(f, faults) || e != api.OK || len(l) != d.Len() {
		t.Errorf("%d %v, not %v:\n%snot\n%s", e, f, faults, text, want)
	}
}

func lines(l ...string) string { return strings.Join(l, "\n") + "\n" }

func entry(h api.Header, base int) string {
	s, _ := catalog.Put(api.Extent{Head: h, Base: base})
	return s
}

func record(h api.Header, base int, l ...int) string {
	got := bitset.New(h.N)
	for _, i := range l {
		got = got.With(i)
	}
	s, _ := journal.Put(journal.Record{Extent: api.Extent{Head: h, Base: base}, Got: got})
	return s
}

// 43.1, 43.2
func TestScan(t *testing.T) {
	d, p := opened(t, 20)
	scanned(t, d, lines("0 epoch 1", "1-19 blank"))
	a, b, c := packed(t, 7, 2), packed(t, 3, 3), packed(t, 9, 1)
	if p.Add("secret", a) != api.OK || p.Begin(b.Head) != api.OK || p.Stage(3, 2, b.Blocks[2]) != api.OK || p.Begin(c.Head) != api.OK {
		t.Fatal("depot")
	}
	want := lines("0 epoch 1", "1 record 3", "2 record 9", "3-4 blank", "5 entry 7", "6-12 blank", "13 block 7 0", "14 block 7 1", "15-16 blank", "17 block 3 2", "18-19 blank")
	scanned(t, d, want)
	if l, _, _ := scrub.Scan(d, "secret"); l[0] != (scrub.Sector{Kind: scrub.Epoch, I: 1}) || l[1] != (scrub.Sector{Kind: scrub.Record, ID: 3}) || l[5] != (scrub.Sector{Kind: scrub.Entry, ID: 7}) || l[14] != (scrub.Sector{Kind: scrub.Block, ID: 7, I: 1}) || l[15] != (scrub.Sector{}) {
		t.Error("fields", l)
	}
	d.Write(15, "x")
	d.Write(16, "y")
	d.Write(19, strings.Repeat("\x00", 255)+"\x01")
	scanned(t, d, strings.Replace(strings.Replace(want, "15-16 blank", "15-16 stray", 1), "18-19 blank", "18 blank\n19 stray", 1))
	d.Write(18, "z")
	before := d.Clone()
	scanned(t, d, strings.Replace(strings.Replace(want, "15-16 blank", "15-16 stray", 1), "18-19 blank", "18-19 stray", 1))
	for i := range 20 {
		s, _ := d.Read(i)
		if u, _ := before.Read(i); s != u {
			t.Error("written by Scan", i)
		}
	}
	d.Write(14, "damaged")
	scanned(t, d, strings.Replace(strings.Replace(want, "15-16 blank", "15-16 stray", 1), "18-19 blank", "18-19 stray", 1), scrub.Fault{Sector: 5, Err: api.ErrRoot})
	d.Write(14, a.Blocks[1]+"behind it")
	d.Write(17, "") // a staged block is a block, whatever it contains
	scanned(t, d, strings.Replace(strings.Replace(want, "15-16 blank", "15-16 stray", 1), "18-19 blank", "18-19 stray", 1))
}

// 43.1
func TestFaults(t *testing.T) {
	a, b, c := packed(t, 7, 2), packed(t, 3, 3), packed(t, 9, 1)
	wrong := c.Head
	wrong.Tag = strings.Repeat("t", 32)
	later := header.Sign("key", c.Head)
	d, _ := disk.New(30)
	for i, s := range map[int]string{0: "junk", 5: entry(a.Head, 13), 6: entry(a.Head, 20), 7: entry(b.Head, 14), 8: entry(wrong, 20), 9: entry(c.Head, 12), 10: entry(c.Head, 30), 11: "SLC1", 12: entry(c.Head, 29),
		1: record(b.Head, 28), 2: record(a.Head, 20), 3: record(b.Head, 20, 0, 1), 4: record(later, 25), 13: a.Blocks[0], 14: a.Blocks[1], 20: b.Blocks[0], 25: "q"} {
		d.Write(i, s)
	}
	f := func(i int, e api.Errno) scrub.Fault { return scrub.Fault{Sector: i, Err: e} }
	scanned(t, d, lines("0 wrong", "1 wrong", "2 wrong", "3 record 3", "4 wrong", "5 entry 7", "6 wrong", "7 wrong", "8 wrong", "9 wrong", "10 wrong", "11 wrong", "12 entry 9", "13 block 7 0", "14 block 7 1", "15-19 blank", "20 block 3 0", "21 block 3 1", "22-24 blank", "25 stray", "26-28 blank", "29 block 9 0"),
		f(0, api.ErrForm), f(6, api.ErrDup), f(7, api.ErrDup), f(8, api.ErrTag), f(9, api.ErrRange), f(10, api.ErrRange), f(11, api.ErrForm), f(12, api.ErrRoot), f(1, api.ErrRange), f(2, api.ErrDup), f(4, api.ErrTag))
	if _, faults, e := scrub.Scan(d, "other"); e != api.OK || len(faults) != 13 || faults[1] != f(5, api.ErrTag) {
		t.Error("another secret", e, faults)
	}
	d, _ = disk.New(13)
	scanned(t, d, "0-12 blank\n")
	d.Write(1, entry(a.Head, 13))
	d.Write(5, record(a.Head, 13))
	d.Write(0, "SLE1\x01\x02\x03\x04")
	scanned(t, d, lines("0 epoch 16909060", "1 wrong", "2-4 blank", "5 wrong", "6-12 blank"), f(5, api.ErrForm), f(1, api.ErrForm))
}

// 43.1: a copy of an entry, and errors in the order of the chapter.
func TestOrder(t *testing.T) {
	a := packed(t, 7, 2)
	d, p := opened(t, 20)
	p.Add("secret", a)
	d.Write(6, entry(a.Head, 13))
	scanned(t, d, lines("0 epoch 1", "1-4 blank", "5 entry 7", "6 wrong", "7-12 blank", "13 block 7 0", "14 block 7 1", "15-19 blank"), scrub.Fault{Sector: 6, Err: api.ErrDup})
	bad := a.Head
	bad.Tag = strings.Repeat("t", 32)
	d.Write(6, entry(bad, 19))
	d.Write(7, entry(a.Head, 19))
	scanned(t, d, lines("0 epoch 1", "1-4 blank", "5 entry 7", "6 wrong", "7 wrong", "8-12 blank", "13 block 7 0", "14 block 7 1", "15-19 blank"), scrub.Fault{Sector: 6, Err: api.ErrTag}, scrub.Fault{Sector: 7, Err: api.ErrRange})
}

// 43.1
func TestErrors(t *testing.T) {
	small, _ := disk.New(12)
	dead, _ := disk.New(12)
	dead.Fuse(0)
	dead.Sync()
	for _, d := range []*disk.Disk{small, dead, nil} {
		if l, f, e := scrub.Scan(d, "secret"); len(l) > 0 || len(f) > 0 || e != api.ErrArg {
			t.Error("a small disk", e)
		}
	}
	d, _ := opened(t, 20)
	d.Fuse(0)
	scanned(t, d, lines("0 epoch 1", "1-19 blank"))
	d.Sync()
	if l, f, e := scrub.Scan(d, "secret"); len(l) > 0 || len(f) > 0 || e != api.ErrPower {
		t.Error("no power", e)
	}
}

// 43.2
func TestText(t *testing.T) {
	type s = scrub.Sector
	for i, x := range []struct {
		l    []s
		want string
	}{
		{nil, ""}, {[]s{{}}, "0 blank\n"}, {[]s{{}, {}, {}}, "0-2 blank\n"}, {[]s{{Kind: scrub.Stray}, {Kind: scrub.Stray}, {}, {Kind: scrub.Stray}}, lines("0-1 stray", "2 blank", "3 stray")},
		{[]s{{Kind: scrub.Epoch, I: 5}, {Kind: scrub.Epoch, I: 5}, {Kind: scrub.Record, ID: 4, I: 9}, {Kind: scrub.Record, ID: 4, I: 9}, {Kind: scrub.Entry, ID: 8}, {Kind: scrub.Entry, ID: 8}, {Kind: scrub.Block, ID: 1, I: 2}, {Kind: scrub.Block, ID: 1, I: 2}, {Kind: scrub.Wrong}, {Kind: scrub.Wrong}}, lines("0 epoch 5", "1 epoch 5", "2 record 4", "3 record 4", "4 entry 8", "5 entry 8", "6 block 1 2", "7 block 1 2", "8 wrong", "9 wrong")},
		{[]s{{ID: 1}, {ID: 2}, {ID: 2}, {ID: 2, I: 1}}, lines("0 blank", "1-2 blank", "3 blank")}, {[]s{{Kind: 7}, {Kind: math.MaxInt, ID: 3}, {Kind: -1, ID: 3}, {Kind: math.MinInt}}, lines("0 wrong", "1 wrong", "2 blank", "3 blank")},
		{[]s{{Kind: scrub.Block, ID: -1, I: -2}, {Kind: scrub.Epoch, ID: 9}}, lines("0 block -1 -2", "1 epoch 0")},
	} {
		if got := scrub.Text(x.l); got != x.want {
			t.Errorf("case %d: %q", i, got)
		}
	}
	for k, want := range []string{"blank", "epoch 0", "record 0", "entry 0", "block 0 0", "stray", "wrong"} {
		if got := scrub.Text([]s{{Kind: k}}); got != "0 "+want+"\n" {
			t.Errorf("kind %d: %q", k, got)
		}
	}
}

// 43.3
func TestWorlds(t *testing.T) {
	for seed := range 12 {
		x := seed
		below := func(n int) int {
			x = x*6364136223846793005 + 1442695040888963407
			return (x >> 33 & 0xffffff) % n
		}
		w, e := world.New(world.Config{Secret: "secret", From: 60, To: 60})
		if e != api.OK {
			t.Fatal(e)
		}
		for range 150 {
			switch k := below(10); k {
			case 0:
				w.Do(api.Step{Kind: api.Pack, Files: []api.File{{Path: "f", Data: noise(below(2000), seed)}}})
			case 1:
				w.Do(api.Step{Kind: api.FuseS + below(2), N: below(20)})
			case 2:
				w.Do(api.Step{Kind: api.CrashS + below(2), N: below(1 << 16)})
			default:
				w.Do(api.Step{Kind: api.Tick})
			}
		}
		w.Do(api.Step{Kind: api.CrashR, N: below(1 << 16)})
		for to := range 2 {
			if w.Up(to) && w.Depot(to) == nil {
				t.Error("no depot")
			}
		}
	}
	a, b, c := packed(t, 1, 2), packed(t, 2, 3), packed(t, 3, 4)
	for fuse := range 60 {
		for _, bits := range []int{0, -1, 5, 10} {
			d, p := opened(t, 40)
			d.Fuse(fuse)
			p.Add("secret", a)
			p.Begin(b.Head)
			p.Begin(c.Head)
			for i := range b.Blocks {
				p.Stage(2, i, b.Blocks[i])
				p.Stage(3, i, c.Blocks[i])
			}
			p.Commit(2)
			p.Abort(3)
			p.Add("secret", packed(t, 4, 2))
			p.Begin(c.Head)
			tidy.Run(d, "secret")
			d.Crash(bits)
			if _, e := depot.Open(d, "secret"); e != api.OK {
				t.Fatal(e)
			}
			if _, f, e := scrub.Scan(d, "secret"); len(f) > 0 || e != api.OK {
				t.Errorf("fuse %d, bits %d: %v %d", fuse, bits, f, e)
			}
		}
	}
}
