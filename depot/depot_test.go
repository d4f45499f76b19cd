package depot_test

import (
	"math"
	"slices"
	"strings"
	"testing"

	"sledge/api"
	"sledge/archive"
	"sledge/bitset"
	"sledge/catalog"
	"sledge/depot"
	"sledge/disk"
	"sledge/header"
	"sledge/journal"
	"sledge/kdf"
)

func noise(n, seed int) string {
	b := make([]byte, n)
	x := n + seed
	for i := range b {
		x = x*6364136223846793005 + 1442695040888963407
		b[i] = byte(x >> 40)
	}
	return string(b)
}

// packed is an archive of about so many blocks.
func packed(t *testing.T, id, n int) api.Archive {
	t.Helper()
	a, e := archive.Pack("secret", "0123456789abcdef", id, api.File{Path: "f", Data: noise(n*192-20, id)})
	if e != api.OK || a.Head.N != n {
		t.Fatal(e, a.Head.N)
	}
	return a
}

func fresh(t *testing.T, n int) *disk.Disk {
	t.Helper()
	d, e := disk.New(n)
	if e != api.OK {
		t.Fatal(e)
	}
	return d
}

func open(t *testing.T, d *disk.Disk) *depot.Depot {
	t.Helper()
	p, e := depot.Open(d, "secret")
	if e != api.OK || p == nil {
		t.Fatal(e)
	}
	return p
}

func expect(t *testing.T, what string, got, want api.Errno) {
	t.Helper()
	if got != want {
		t.Errorf("%s: %d, not %d", what, got, want)
	}
}

func transfer(t *testing.T, p *depot.Depot, a api.Archive) {
	t.Helper()
	expect(t, "begin", p.Begin(a.Head), api.OK)
	for i, b := range a.Blocks {
		expect(t, "stage", p.Stage(a.Head.ID, i, b), api.OK)
	}
	expect(t, "commit", p.Commit(a.Head.ID), api.OK)
}

func ids(l []api.Header) []int {
	out := []int{}
	for _, h := range l {
		out = append(out, h.ID)
	}
	return out
}

func holds(t *testing.T, p *depot.Depot, kept, under []int) {
	t.Helper()
	if !slices.Equal(ids(p.Kept()), kept) || !slices.Equal(ids(p.Under()), under) {
		t.Errorf("kept %d, in progress %d, not %d, %d", ids(p.Kept()), ids(p.Under()), kept, under)
	}
}

func read(t *testing.T, d *disk.Disk, i int) string {
	t.Helper()
	s, e := d.Read(i)
	if e != api.OK {
		t.Fatal(i, e)
	}
	return s
}

func sector(s string) string { return s + strings.Repeat("\x00", 256-len(s)) }

func entry(t *testing.T, h api.Header, base int) string {
	t.Helper()
	s, e := catalog.Put(api.Extent{Head: h, Base: base})
	if e != api.OK {
		t.Fatal(e)
	}
	return s
}

func record(t *testing.T, h api.Header, base int, l ...int) string {
	t.Helper()
	got := bitset.New(h.N)
	for _, i := range l {
		got = got.With(i)
	}
	s, e := journal.Put(journal.Record{Extent: api.Extent{Head: h, Base: base}, Got: got})
	if e != api.OK {
		t.Fatal(e)
	}
	return s
}

// 25.1
func TestOpen(t *testing.T) {
	for n, want := range map[int]api.Errno{1: api.ErrArg, 12: api.ErrArg, 13: api.OK, 1024: api.OK} {
		p, e := depot.Open(fresh(t, n), "secret")
		if e != want || (p != nil) != (e == api.OK) {
			t.Errorf("%d sectors: %d", n, e)
		}
	}
	if p, e := depot.Open(nil, "secret"); p != nil || e == api.OK {
		t.Error("nil disk")
	}
	d := fresh(t, 20)
	for want := 1; want < 5; want++ {
		p := open(t, d)
		if p.Epoch() != want || p.Staged() != 0 || len(d.Unsynced()) > 0 {
			t.Errorf("epoch %d", p.Epoch())
		}
		holds(t, p, []int{}, []int{})
	}
	for fuse, want := range []api.Errno{api.ErrPower, api.ErrPower, api.OK} {
		d.Fuse(fuse)
		p, e := depot.Open(d, "secret")
		if e != want || (p != nil) != (e == api.OK) {
			t.Errorf("fuse %d: %d", fuse, e)
		}
		d.Crash(0)
	}
	d.Fuse(0)
	d.Sync()
	if _, e := depot.Open(d, "secret"); e != api.ErrPower {
		t.Error("no power", e)
	}
	d.Crash(0)
	d.Write(0, "not an epoch")
	if p, e := depot.Open(d, "secret"); p != nil || e != api.ErrForm {
		t.Error("no epoch", e)
	}
	d.Write(0, "SLE1\xff\xff\xff\xff")
	if p, e := depot.Open(d, "secret"); p != nil || e != api.ErrFull {
		t.Error("no further epoch", e)
	}
}

// 25.1
func TestOpenChecks(t *testing.T) {
	a, b, c := packed(t, 1, 3), packed(t, 2, 2), packed(t, 3, 4)
	wrong := b.Head
	wrong.Tag = strings.Repeat("t", 32)
	for i, x := range []struct {
		entries, records map[int]string
		kept, under      []int
		blanked          []int
	}{
		{map[int]string{5: entry(t, a.Head, 13), 12: entry(t, b.Head, 16)}, map[int]string{1: record(t, c.Head, 18, 0, 2)}, []int{1, 2}, []int{3}, nil},
		{map[int]string{6: entry(t, b.Head, 13), 7: entry(t, a.Head, 14)}, nil, []int{2}, []int{}, nil},
		{map[int]string{5: entry(t, b.Head, 13), 7: entry(t, a.Head, 15)}, nil, []int{1, 2}, []int{}, nil},
		{map[int]string{5: entry(t, b.Head, 13), 7: entry(t, b.Head, 20)}, nil, []int{2}, []int{}, nil},
		{map[int]string{5: entry(t, b.Head, 12)}, map[int]string{2: record(t, a.Head, 12)}, []int{}, []int{}, []int{2}},
		{map[int]string{5: entry(t, b.Head, 38)}, map[int]string{2: record(t, a.Head, 37)}, []int{2}, []int{}, []int{2}},
		{map[int]string{5: entry(t, b.Head, 39)}, map[int]string{2: record(t, a.Head, 38)}, []int{}, []int{}, []int{2}},
		{map[int]string{5: entry(t, wrong, 13)}, map[int]string{3: record(t, wrong, 13), 4: record(t, a.Head, 13)}, []int{}, []int{1}, []int{3}},
		{map[int]string{5: "x"}, map[int]string{1: "y", 2: record(t, a.Head, 13) + "z", 3: "SLJ1", 4: record(t, c.Head, 30, 3)}, []int{}, []int{3}, []int{1, 2, 3}},
		{map[int]string{9: entry(t, a.Head, 13)}, map[int]string{1: record(t, a.Head, 20), 2: record(t, b.Head, 15), 3: record(t, b.Head, 16), 4: record(t, b.Head, 18)}, []int{1}, []int{2}, []int{1, 2, 4}},
		{map[int]string{9: record(t, a.Head, 13)}, map[int]string{1: entry(t, b.Head, 30)}, []int{}, []int{}, []int{1}},
	} {
		d := fresh(t, 40)
		for k, s := range x.entries {
			d.Write(k, s)
		}
		for k, s := range x.records {
			d.Write(k, s)
		}
		d.Sync()
		p := open(t, d)
		if !slices.Equal(ids(p.Kept()), x.kept) || !slices.Equal(ids(p.Under()), x.under) {
			t.Errorf("case %d: %d, %d", i, ids(p.Kept()), ids(p.Under()))
		}
		if len(d.Unsynced()) > 0 {
			t.Errorf("case %d: unsynced", i)
		}
		for k, s := range x.records {
			if slices.Contains(x.blanked, k) {
				s = ""
			}
			if read(t, d, k) != sector(s) {
				t.Errorf("case %d: sector %d", i, k)
			}
		}
		for _, h := range p.Kept() {
			if got, kept, e := p.Head(h.ID); got != h || !kept || e != api.OK {
				t.Errorf("case %d: %d", i, e)
			}
		}
	}
	d := fresh(t, 40)
	d.Write(5, entry(t, a.Head, 13))
	p, e := depot.Open(d, "other")
	if e != api.OK || len(p.Kept()) > 0 {
		t.Error("another secret", e)
	}
}

// 25.1: an error of the disk while a record is overwritten.
func TestOpenWithoutPower(t *testing.T) {
	for fuse := range 4 {
		d := fresh(t, 20)
		d.Write(2, "junk")
		d.Sync()
		d.Fuse(fuse)
		p, e := depot.Open(d, "secret")
		if want := fuse == 3; (e == api.OK) != want || (p != nil) != want || !want && e != api.ErrPower {
			t.Errorf("fuse %d: %d", fuse, e)
		}
	}
}

// 25.2 to 25.5
func TestTransfer(t *testing.T) {
	a, b := packed(t, 7, 5), packed(t, 3, 2)
	d := fresh(t, 30)
	p := open(t, d)
	expect(t, "begin", p.Begin(a.Head), api.OK)
	if len(d.Unsynced()) > 0 || read(t, d, 1) != sector(record(t, a.Head, 13)) {
		t.Error("the record")
	}
	expect(t, "begin", p.Begin(b.Head), api.OK)
	holds(t, p, []int{}, []int{3, 7})
	if read(t, d, 2) != sector(record(t, b.Head, 18)) {
		t.Error("the second record")
	}
	expect(t, "again", p.Begin(a.Head), api.OK)
	if h, kept, e := p.Head(7); h != a.Head || kept || e != api.OK {
		t.Error("head", e)
	}
	if h, kept, e := p.Head(8); h != (api.Header{}) || kept || e != api.ErrNone {
		t.Error("head of nothing", e)
	}
	if s, e := p.Block(8, 0); s != "" || e != api.ErrNone {
		t.Error("a block of nothing", e)
	}
	if got, e := p.Got(7); got != bitset.New(5) || e != api.OK {
		t.Error("got", e)
	}
	expect(t, "commit of nothing", p.Commit(7), api.ErrState)
	expect(t, "stage", p.Stage(7, 3, a.Blocks[3]), api.OK)
	if !slices.Equal(d.Unsynced(), []int{1}) || read(t, d, 1) != sector(record(t, a.Head, 13, 3)) || read(t, d, 16) != sector(a.Blocks[3]) {
		t.Error("what Stage writes", d.Unsynced())
	}
	expect(t, "stage again", p.Stage(7, 3, b.Blocks[0]), api.OK)
	if p.Staged() != 1 || read(t, d, 16) != sector(a.Blocks[3]) {
		t.Error("staged twice")
	}
	if s, e := p.Block(7, 3); s != a.Blocks[3] || e != api.OK {
		t.Error("block", e)
	}
	if s, e := p.Block(7, 2); s != "" || e != api.ErrState {
		t.Error("a block that is not staged", e)
	}
	if s, e := p.Block(7, 5); s != "" || e != api.ErrRange {
		t.Error("no block", e)
	}
	if s, e := p.Block(7, -1); s != "" || e != api.ErrRange {
		t.Error("no block", e)
	}
	for _, i := range []int{0, 1, 2, 4} {
		expect(t, "commit too early", p.Commit(7), api.ErrState)
		expect(t, "stage", p.Stage(7, i, a.Blocks[i]), api.OK)
	}
	if got, _ := p.Got(7); !got.Full() || p.Staged() != 5 {
		t.Error("all staged")
	}
	expect(t, "commit", p.Commit(7), api.OK)
	if !slices.Equal(d.Unsynced(), []int{1}) || read(t, d, 5) != sector(entry(t, a.Head, 13)) || read(t, d, 1) != sector("") {
		t.Error("what Commit writes", d.Unsynced())
	}
	holds(t, p, []int{7}, []int{3})
	expect(t, "commit again", p.Commit(7), api.OK)
	expect(t, "stage what is kept", p.Stage(7, 0, a.Blocks[0]), api.ErrNone)
	expect(t, "begin what is kept", p.Begin(a.Head), api.OK)
	if got, e := p.Got(7); got != (bitset.Set{}) || e != api.ErrNone {
		t.Error("got what is kept", e)
	}
	if h, kept, e := p.Head(7); h != a.Head || !kept || e != api.OK {
		t.Error("head", e)
	}
	if got, e := p.Read(7); !archive.Same(got, a) || e != api.OK {
		t.Error("read", e)
	}
	for i := range a.Blocks {
		if s, e := p.Block(7, i); s != a.Blocks[i] || e != api.OK {
			t.Error("block", i, e)
		}
	}
	if s, e := p.Block(7, 5); s != "" || e != api.ErrRange {
		t.Error("no block of a kept one", e)
	}
	if got, e := p.Read(3); e != api.ErrNone || len(got.Blocks) > 0 || got.Head.ID != 0 {
		t.Error("read what is in progress", e)
	}
	d.Crash(0)
	p = open(t, d)
	holds(t, p, []int{7}, []int{3})
}

// 25.3
func TestBeginErrors(t *testing.T) {
	d := fresh(t, 33)
	p := open(t, d)
	a := packed(t, 1, 5)
	wrong := a.Head
	wrong.Tag = strings.Repeat("t", 32)
	expect(t, "a wrong tag", p.Begin(wrong), api.ErrTag)
	expect(t, "no header", p.Begin(api.Header{}), api.ErrArg)
	other := packed(t, 1, 4).Head
	expect(t, "begin", p.Begin(a.Head), api.OK)
	expect(t, "another one of this ID", p.Begin(other), api.ErrDup)
	expect(t, "too large", p.Begin(packed(t, 2, 16).Head), api.ErrSpace)
	expect(t, "begin", p.Begin(packed(t, 2, 4).Head), api.OK)
	expect(t, "begin", p.Begin(packed(t, 3, 4).Head), api.OK)
	expect(t, "too large", p.Begin(packed(t, 4, 8).Head), api.ErrSpace)
	expect(t, "as much as there is", p.Begin(packed(t, 4, 7).Head), api.OK)
	expect(t, "a fifth one", p.Begin(packed(t, 5, 8).Head), api.ErrFull)
	expect(t, "a second time", p.Begin(a.Head), api.OK)
	expect(t, "another one of this ID", p.Begin(other), api.ErrDup)
	holds(t, p, []int{}, []int{1, 2, 3, 4})
	expect(t, "abort", p.Abort(2), api.OK)
	if len(d.Unsynced()) > 0 || read(t, d, 2) != sector("") {
		t.Error("what Abort writes")
	}
	holds(t, p, []int{}, []int{1, 3, 4})
	expect(t, "abort", p.Abort(2), api.ErrNone)
	expect(t, "in place of the second", p.Begin(packed(t, 9, 3).Head), api.OK)
	if read(t, d, 2) != sector(record(t, packed(t, 9, 3).Head, 18)) {
		t.Error("the first free sector")
	}
	d.Fuse(0)
	expect(t, "no power", p.Begin(a.Head), api.OK)
	d.Sync()
	expect(t, "no power", p.Begin(wrong), api.ErrPower)
	expect(t, "no power", p.Stage(99, 0, ""), api.ErrPower)
	expect(t, "no power", p.Commit(99), api.ErrPower)
	expect(t, "no power", p.Abort(99), api.ErrPower)
	expect(t, "no power", p.Add("other", api.Archive{}), api.ErrPower)
	holds(t, p, []int{}, []int{1, 3, 4, 9})
}

// 25.2, 25.4: a block that is written counts even if the power fails before its record is written.
func TestStageErrors(t *testing.T) {
	d := fresh(t, 33)
	p := open(t, d)
	a := packed(t, 1, 5)
	p.Begin(a.Head)
	for i, x := range []struct {
		id, i, n int
		e        api.Errno
	}{
		{2, 0, 224, api.ErrNone}, {0, 9, 1, api.ErrNone}, {1, 5, 224, api.ErrRange}, {1, -1, 224, api.ErrRange}, {1, math.MaxInt, 3, api.ErrRange}, {1, math.MinInt, 3, api.ErrRange}, {1, 0, 223, api.ErrArg}, {1, 0, 225, api.ErrArg}, {1, 4, 0, api.ErrArg}, {1, 4, 224, api.OK}, {1, 4, 5, api.ErrArg},
	} {
		if e := p.Stage(x.id, x.i, strings.Repeat("b", x.n)); e != x.e {
			t.Errorf("case %d: %d", i, e)
		}
	}
	if p.Staged() != 1 {
		t.Error(p.Staged())
	}
	for fuse, written := range []int{0, 1, 1} {
		d.Fuse(fuse)
		before := p.Staged()
		expect(t, "stage", p.Stage(1, 0, a.Blocks[0]), api.ErrPower)
		expect(t, "stage without power", p.Stage(1, 0, a.Blocks[0]), api.ErrPower)
		if got, _ := p.Got(1); got.Has(0) || p.Staged() != before+written {
			t.Errorf("fuse %d: %v, %d written", fuse, got.List(), p.Staged()-before)
		}
		d.Crash(-1)
		p = open(t, d)
		if got, _ := p.Got(1); got.Has(0) || !got.Has(4) || p.Staged() != 0 {
			t.Errorf("fuse %d: %v", fuse, got.List())
		}
	}
}

// 25.5
func TestCommitErrors(t *testing.T) {
	d := fresh(t, 100)
	p := open(t, d)
	a := packed(t, 1, 3)
	expect(t, "nothing", p.Commit(1), api.ErrNone)
	p.Begin(a.Head)
	for i, b := range a.Blocks {
		p.Stage(1, i, b)
	}
	d.Write(14, "damaged")
	expect(t, "a damaged block", p.Commit(1), api.ErrRoot)
	holds(t, p, []int{}, []int{1})
	d.Write(14, a.Blocks[1]+"behind it")
	for id := 2; id <= 9; id++ {
		expect(t, "add", p.Add("secret", packed(t, id, 1)), api.OK)
	}
	expect(t, "a ninth one", p.Commit(1), api.ErrFull)
	d.Write(14, "damaged")
	expect(t, "damaged, ahead of full", p.Commit(1), api.ErrRoot)
	holds(t, p, []int{2, 3, 4, 5, 6, 7, 8, 9}, []int{1})
	d.Write(14, a.Blocks[1])
	d.Write(6, "")
	d.Sync()
	for fuse := range 2 {
		c := d.Clone()
		q := open(t, c)
		c.Fuse(fuse)
		expect(t, "commit without power", q.Commit(1), api.ErrPower)
		holds(t, q, []int{2, 4, 5, 6, 7, 8, 9}, []int{1})
	}
	c := d.Clone()
	q := open(t, c)
	c.Fuse(2)
	expect(t, "commit, the record stays", q.Commit(1), api.ErrPower)
	holds(t, q, []int{1, 2, 4, 5, 6, 7, 8, 9}, []int{})
	if h, kept, e := q.Head(1); h != a.Head || !kept || e != api.OK {
		t.Error("kept all the same", e)
	}
	if _, e := q.Got(1); e != api.ErrNone {
		t.Error("got what is kept", e)
	}
	expect(t, "commit again without power", q.Commit(1), api.ErrPower)
	c.Crash(0)
	q = open(t, c)
	holds(t, q, []int{1, 2, 4, 5, 6, 7, 8, 9}, []int{})
	if read(t, c, 6) != sector(entry(t, a.Head, 13)) {
		t.Error("the first free sector")
	}
	q = open(t, d)
	d.Fuse(1)
	expect(t, "abort without power", q.Abort(1), api.ErrPower)
	holds(t, q, []int{2, 4, 5, 6, 7, 8, 9}, []int{1})
}

// 25.6
func TestAdd(t *testing.T) {
	d := fresh(t, 25)
	p := open(t, d)
	a, b := packed(t, 5, 3), packed(t, 2, 4)
	other, _ := archive.Pack("other", "0123456789abcdef", 5, api.File{Path: "f"})
	damaged := api.Archive{Head: a.Head, Blocks: slices.Clone(a.Blocks)}
	damaged.Blocks[1] = b.Blocks[1]
	expect(t, "another secret", p.Add("other", other), api.ErrTag)
	expect(t, "another secret, no archive", p.Add("other", api.Archive{}), api.ErrTag)
	expect(t, "a wrong tag", p.Add("secret", other), api.ErrTag)
	expect(t, "no archive", p.Add("secret", api.Archive{}), api.ErrArg)
	expect(t, "a block too few", p.Add("secret", api.Archive{Head: a.Head, Blocks: a.Blocks[1:]}), api.ErrForm)
	expect(t, "a wrong block", p.Add("secret", damaged), api.ErrRoot)
	expect(t, "add", p.Add("secret", a), api.OK)
	if len(d.Unsynced()) > 0 || read(t, d, 5) != sector(entry(t, a.Head, 13)) || read(t, d, 15) != sector(a.Blocks[2]) {
		t.Error("what Add writes")
	}
	expect(t, "twice", p.Add("secret", a), api.ErrDup)
	expect(t, "too large", p.Add("secret", packed(t, 6, 10)), api.ErrSpace)
	p.Begin(b.Head)
	expect(t, "what is in progress", p.Add("secret", b), api.ErrDup)
	expect(t, "the rest", p.Add("secret", packed(t, 1, 5)), api.OK)
	holds(t, p, []int{1, 5}, []int{2})
	if got, e := p.Read(1); !archive.Same(got, packed(t, 1, 5)) || e != api.OK {
		t.Error(e)
	}
	if s, e := p.Block(5, 2); s != a.Blocks[2] || e != api.OK {
		t.Error(e)
	}
	d.Fuse(0)
	d.Sync()
	if got, e := p.Read(5); e != api.ErrPower || len(got.Blocks) > 0 || got.Head.ID != 0 {
		t.Error("read without power", e)
	}
	if s, e := p.Block(5, 0); s != "" || e != api.ErrPower {
		t.Error("block without power", e)
	}
	if _, e := p.Read(77); e != api.ErrNone {
		t.Error("read", e)
	}
	for fuse := range 6 {
		d := fresh(t, 25)
		p := open(t, d)
		d.Fuse(fuse)
		want := api.ErrPower
		if fuse == 6 {
			want = api.OK
		}
		expect(t, "add without power", p.Add("secret", a), want)
		holds(t, p, []int{}, []int{})
	}
	d = fresh(t, 100)
	p = open(t, d)
	for id := 1; id <= 8; id++ {
		expect(t, "add", p.Add("secret", packed(t, id, 1)), api.OK)
	}
	expect(t, "a ninth one", p.Add("secret", packed(t, 9, 200)), api.ErrFull)
	expect(t, "twice, ahead of full", p.Add("secret", packed(t, 8, 1)), api.ErrDup)
}

// P1
func TestNil(t *testing.T) {
	var p *depot.Depot
	a := packed(t, 1, 1)
	h, kept, e := p.Head(1)
	if h != (api.Header{}) || kept {
		t.Error("head")
	}
	_, e2 := p.Got(1)
	_, e3 := p.Read(1)
	_, e4 := p.Block(1, 0)
	for _, e := range []api.Errno{e, e2, e3, e4, p.Begin(a.Head), p.Stage(1, 0, a.Blocks[0]), p.Commit(1), p.Abort(1), p.Add("secret", a)} {
		expect(t, "nil", e, api.ErrNone)
	}
	if p.Epoch() != 0 || p.Staged() != 0 || len(p.Kept()) > 0 || len(p.Under()) > 0 {
		t.Error("nil")
	}
}

// 25.7: power fails after any number of operations, and anything survives.
func TestCrashes(t *testing.T) {
	a, b, c := packed(t, 1, 3), packed(t, 2, 2), packed(t, 3, 2)
	all := map[int]api.Archive{1: a, 2: b, 3: c}
	before := fresh(t, 30)
	p := open(t, before)
	expect(t, "add", p.Add("secret", c), api.OK)
	for fuse := range 32 {
		for _, bits := range []int{0, -1, 1, 2, 5} {
			d := before.Clone()
			p := open(t, d)
			d.Fuse(fuse)
			synced := map[int]bitset.Set{}
			note := func(e api.Errno) {
				if e == api.OK && len(d.Unsynced()) == 0 {
					for _, h := range p.Under() {
						synced[h.ID], _ = p.Got(h.ID)
					}
				}
			}
			note(p.Begin(a.Head))
			note(p.Stage(1, 1, a.Blocks[1]))
			note(p.Begin(b.Head))
			for i := range 3 {
				note(p.Stage(1, i, a.Blocks[i]))
				if i < 2 {
					note(p.Stage(2, i, b.Blocks[i]))
				}
			}
			committed := p.Commit(2) == api.OK
			committed2 := p.Commit(1) == api.OK
			kept, tried := ids(p.Kept()), d.Dead()
			got := map[int]bitset.Set{}
			for _, h := range p.Under() {
				got[h.ID], _ = p.Got(h.ID)
			}
			d.Crash(bits)
			p, e := depot.Open(d, "secret")
			if e != api.OK {
				t.Fatalf("fuse %d, bits %d: %d", fuse, bits, e)
			}
			after := ids(p.Kept())
			if !slices.Contains(after, 3) || committed && !slices.Contains(after, 2) || committed2 && !slices.Contains(after, 1) {
				t.Errorf("fuse %d, bits %d: kept %d", fuse, bits, after)
			}
			for _, id := range kept {
				if !slices.Contains(after, id) {
					t.Errorf("fuse %d, bits %d: %d is not kept any more", fuse, bits, id)
				}
			}
			if !tried && !slices.Equal(kept, after) {
				t.Errorf("fuse %d, bits %d: kept %d, then %d", fuse, bits, kept, after)
			}
			for _, id := range after {
				if x, e := p.Read(id); !archive.Same(x, all[id]) || e != api.OK {
					t.Errorf("fuse %d, bits %d: archive %d, %d", fuse, bits, id, e)
				}
				if !slices.Contains(kept, id) && !got[id].Full() {
					t.Errorf("fuse %d, bits %d: archive %d is kept", fuse, bits, id)
				}
			}
			for _, h := range p.Under() {
				now, _ := p.Got(h.ID)
				if was, ok := got[h.ID]; ok && !now.Within(was.Or(bitset.New(3).With(0).With(1).With(2))) || !synced[h.ID].Within(now) {
					t.Errorf("fuse %d, bits %d: staged %v, synced %v", fuse, bits, now.List(), synced[h.ID].List())
				}
				for _, i := range now.List() {
					if s, e := p.Block(h.ID, i); s != all[h.ID].Blocks[i] || e != api.OK {
						t.Errorf("fuse %d, bits %d: block %d of %d", fuse, bits, i, h.ID)
					}
				}
			}
			for id := range synced {
				if _, _, e := p.Head(id); e != api.OK {
					t.Errorf("fuse %d, bits %d: %d is gone", fuse, bits, id)
				}
			}
		}
	}
}

// 25.7: a header is verified with the secret of the depot.
func TestKeys(t *testing.T) {
	d := fresh(t, 30)
	p := open(t, d)
	h := packed(t, 1, 3).Head
	expect(t, "another key", p.Begin(header.Sign(kdf.Keys("other", "").Head, h)), api.ErrTag)
	expect(t, "the key", p.Begin(header.Sign(kdf.Keys("secret", "x").Head, h)), api.OK)
}
