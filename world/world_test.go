package world_test

import (
	"crypto/sha256"
	"math"
	"slices"
	"testing"

	"sledge/api"
	"sledge/archive"
	"sledge/filemap"
	"sledge/header"
	"sledge/packet"
	"sledge/world"
)

const (
	r = api.ToReceiver
	s = api.ToSender
)

func noise(n, seed int) string {
	b := make([]byte, n)
	x := n + seed
	for i := range b {
		x = x*6364136223846793005 + 1442695040888963407
		b[i] = byte(x >> 40)
	}
	return string(b)
}

func made(t *testing.T, from, to int, fair api.Fair) *world.World {
	t.Helper()
	w, e := world.New(world.Config{Secret: "secret", From: from, To: to, Fair: fair})
	if e != api.OK || w == nil {
		t.Fatal(e)
	}
	return w
}

func pack(n, seed int) api.Step {
	return api.Step{Kind: api.Pack, Files: []api.File{{Path: "f" + string(rune('a'+seed%26)), Data: noise(n*192-20, seed)}}}
}

func do(t *testing.T, w *world.World, x api.Step, want api.Errno) {
	t.Helper()
	if e := w.Do(x); e != want {
		t.Errorf("step of kind %d: %d, not %d", x.Kind, e, want)
	}
}

func ticks(w *world.World, n int) {
	for range n {
		w.Do(api.Step{Kind: api.Tick})
	}
}

func ids(l []api.Archive) []int {
	var out []int
	for _, a := range l {
		out = append(out, a.Head.ID)
	}
	return out
}

func sameAll(a, b []api.Archive) bool {
	return slices.EqualFunc(a, b, archive.Same)
}

// 32.1
func TestNew(t *testing.T) {
	for _, x := range []struct {
		from, to int
		e        api.Errno
	}{
		{13, 13, api.OK}, {1024, 1024, api.OK}, {12, 20, api.ErrArg}, {20, 12, api.ErrArg}, {0, 20, api.ErrArg}, {20, 1025, api.ErrArg}, {-1, math.MaxInt, api.ErrArg},
	} {
		w, e := world.New(world.Config{From: x.from, To: x.to})
		if e != x.e || (w != nil) != (e == api.OK) {
			t.Errorf("%d, %d: %d", x.from, x.to, e)
		}
	}
	w := made(t, 20, 30, api.Fair{})
	tr := w.Trace()
	if w.Now() != 0 || !w.Up(r) || !w.Up(s) || w.Depot(r).Epoch() != 1 || w.Depot(s).Epoch() != 1 || len(w.Kept(r)) > 0 || len(w.Packed()) > 0 || len(w.Done()) > 0 || w.Way() != 0 || len(tr.Tagged)+len(tr.Injected)+len(tr.Staged)+tr.Flight+tr.Crashes[0]+tr.Crashes[1] != 0 {
		t.Error("a new world")
	}
}

// 32.1
func TestSalt(t *testing.T) {
	for _, id := range []int{1, 2, 255, 256, 65535, 65536 + 7} {
		sum := sha256.Sum256([]byte("sledge salt" + string([]byte{byte(id >> 8), byte(id)})))
		if world.Salt(id) != string(sum[:16]) {
			t.Errorf("Salt(%d)", id)
		}
	}
}

// 32.2, 32.3
func TestExample(t *testing.T) {
	w := made(t, 20, 20, api.Fair{})
	do(t, w, api.Step{Kind: api.Pack, Files: []api.File{{Path: "a", Data: "x"}}}, api.OK)
	want, _ := archive.Pack("secret", world.Salt(1), 1, api.File{Path: "a", Data: "x"})
	if !sameAll(w.Packed(), []api.Archive{want}) || !sameAll(w.Kept(s), w.Packed()) || len(w.Kept(r)) > 0 {
		t.Error("packed")
	}
	ticks(w, 1)
	if w.Now() != 1 || w.Way() != 1 {
		t.Error("the offer", w.Way())
	}
	ticks(w, 5)
	if !sameAll(w.Kept(r), []api.Archive{want}) || !slices.Equal(w.Done(), []int{1}) || w.Now() != 6 || w.Way() != 0 {
		t.Error("kept", w.Done(), w.Way())
	}
	tr := w.Trace()
	if !slices.Equal(tr.Tagged, []api.Header{want.Head}) || !slices.Equal(tr.Staged, []api.Writes{{ID: 1, I: 0, N: 1}}) || tr.Flight != 1 || tr.Crashes != [2]int{} {
		t.Errorf("%+v", tr)
	}
	tr.Tagged[0].ID, tr.Staged[0].N = 9, 9
	w.Packed()[0].Blocks[0] = "changed"
	if w.Trace().Tagged[0].ID != 1 || w.Trace().Staged[0].N != 1 || !sameAll(w.Packed(), w.Kept(r)) {
		t.Error("shared")
	}
}

// 32.2
func TestPack(t *testing.T) {
	w := made(t, 30, 30, api.Fair{})
	do(t, w, api.Step{Kind: api.Pack, Files: []api.File{{Path: "../f"}}}, api.ErrPath)
	do(t, w, api.Step{Kind: api.Pack, Files: []api.File{{Path: "f"}, {Path: "f"}}}, api.ErrDup)
	do(t, w, api.Step{Kind: api.Pack, Files: []api.File{{Path: "f", Data: noise(60000, 1)}}}, api.ErrFull)
	if len(w.Packed()) > 0 || len(w.Trace().Tagged) > 0 {
		t.Error("what is not packed")
	}
	do(t, w, pack(5, 1), api.OK)
	do(t, w, pack(20, 2), api.ErrSpace)
	do(t, w, pack(3, 3), api.OK)
	if !slices.Equal(ids(w.Packed()), []int{1, 2, 3}) || !slices.Equal(ids(w.Kept(s)), []int{1, 3}) || len(w.Trace().Tagged) != 3 || w.Trace().Tagged[1] != w.Packed()[1].Head {
		t.Error("packed and not kept")
	}
	do(t, w, api.Step{Kind: api.FuseS, N: 2}, api.OK)
	do(t, w, pack(4, 4), api.ErrPower)
	if w.Up(s) || !w.Up(r) || w.Depot(s) != nil || w.Depot(r) == nil || len(w.Kept(s)) > 0 || len(w.Packed()) != 4 {
		t.Error("down")
	}
	do(t, w, pack(4, 5), api.ErrPower)
	do(t, w, api.Step{Kind: api.Pack, Files: []api.File{{Path: "../f"}}}, api.ErrPower)
	if len(w.Packed()) != 4 {
		t.Error("packed without power")
	}
	do(t, w, api.Step{Kind: api.CrashS, N: -1}, api.OK)
	if !w.Up(s) || w.Depot(s).Epoch() != 2 || w.Depot(r).Epoch() != 1 || w.Trace().Crashes != [2]int{s: 1} || !slices.Equal(ids(w.Kept(s)), []int{1, 3}) {
		t.Error("up again")
	}
	do(t, w, pack(1, 6), api.OK)
	if !slices.Equal(ids(w.Kept(s)), []int{1, 3, 5}) || w.Packed()[4].Head.Salt != world.Salt(5) {
		t.Error(ids(w.Kept(s)))
	}
	for _, kind := range []int{-1, 8, math.MaxInt, math.MinInt} {
		do(t, w, api.Step{Kind: kind}, api.ErrArg)
	}
}

// 32.2: the ticks of a transfer without faults.
func TestTicks(t *testing.T) {
	w := made(t, 60, 60, api.Fair{})
	do(t, w, pack(20, 1), api.OK)
	var way, flight []int
	for range 8 {
		ticks(w, 1)
		way = append(way, w.Way())
		flight = append(flight, w.Trace().Flight)
	}
	// offer; ack; 8 blocks with a second offer; acks; 8 blocks; acks; 4 blocks with a third offer; ..
	if !slices.Equal(way, []int{1, 1, 9, 9, 8, 8, 5, 5}) || flight[0] != 0 || flight[1] != 0 || flight[2] != 8 {
		t.Error(way, flight)
	}
	ticks(w, 3)
	if !slices.Equal(w.Done(), []int{1}) || !slices.Equal(ids(w.Kept(r)), []int{1}) {
		t.Error(w.Done())
	}
}

// 32.2
func TestFates(t *testing.T) {
	w := made(t, 20, 20, api.Fair{})
	do(t, w, pack(1, 1), api.OK)
	do(t, w, api.Step{Kind: api.Fated, Fate: api.Fate{Drop: true}}, api.OK)
	do(t, w, api.Step{Kind: api.Fated, Fate: api.Fate{Delay: 5, Copies: 2}}, api.OK)
	do(t, w, api.Step{Kind: api.Fated, Fate: api.Fate{Drop: true}}, api.OK)
	ticks(w, 2)
	if w.Way() != 0 {
		t.Error("the first offer", w.Way())
	}
	ticks(w, 1)
	if w.Way() != 3 {
		t.Error("the second offer", w.Way())
	}
	ticks(w, 5)
	if len(w.Depot(r).Under()) != 0 {
		t.Error("too early")
	}
	ticks(w, 1)
	if len(w.Depot(r).Under()) != 1 || w.Now() != 9 {
		t.Error("too late")
	}
}

// 32.2
func TestDown(t *testing.T) {
	w := made(t, 20, 20, api.Fair{})
	do(t, w, pack(1, 1), api.OK)
	ticks(w, 1)
	do(t, w, api.Step{Kind: api.FuseR, N: 0}, api.OK)
	ticks(w, 1)
	if w.Up(r) || w.Way() != 0 || w.Depot(r) != nil || len(w.Kept(r)) > 0 {
		t.Error("the receiver is not down")
	}
	ticks(w, 1)
	if w.Way() != 1 {
		t.Error("the second offer")
	}
	ticks(w, 30)
	if w.Way() > 1 || len(w.Done()) > 0 {
		t.Error("packets to a side that is down")
	}
	do(t, w, api.Step{Kind: api.CrashR}, api.OK)
	if !w.Up(r) || w.Depot(r).Epoch() != 2 || w.Trace().Crashes != [2]int{r: 1} {
		t.Error("up again")
	}
	ticks(w, 40)
	if !slices.Equal(w.Done(), []int{1}) {
		t.Error(w.Done())
	}
	do(t, w, api.Step{Kind: api.FuseS, N: 0}, api.OK)
	do(t, w, pack(1, 2), api.ErrPower)
	if len(w.Done()) > 0 {
		t.Error("done while down")
	}
	ticks(w, 30)
	if w.Way() != 0 {
		t.Error("a side that is down sends")
	}
	do(t, w, api.Step{Kind: api.CrashS}, api.OK)
	if len(w.Done()) > 0 {
		t.Error("a new sender has heard nothing")
	}
	ticks(w, 4)
	if !slices.Equal(w.Done(), []int{1}) {
		t.Error(w.Done())
	}
}

// 32.2: an answer is sent even if the power went off meanwhile.
func TestLastAnswer(t *testing.T) {
	w := made(t, 20, 20, api.Fair{})
	do(t, w, pack(1, 1), api.OK)
	ticks(w, 3)
	do(t, w, api.Step{Kind: api.FuseR, N: 5}, api.OK) // block, sync, record, entry, sync; not the record's end
	ticks(w, 1)
	if w.Up(r) || w.Way() == 0 {
		t.Error("the answer", w.Up(r), w.Way())
	}
	do(t, w, api.Step{Kind: api.CrashR}, api.OK)
	if !slices.Equal(ids(w.Kept(r)), []int{1}) || len(w.Depot(r).Under()) > 0 {
		t.Error("not kept")
	}
	ticks(w, 1)
	if len(w.Done()) > 0 {
		t.Error("an ack of all says that it is kept")
	}
	ticks(w, 30)
	if !slices.Equal(w.Done(), []int{1}) {
		t.Error(w.Done())
	}
}

// 32.2: a side that is down does not answer, not even from memory.
func TestNoAnswer(t *testing.T) {
	w := made(t, 40, 40, api.Fair{})
	do(t, w, pack(1, 1), api.OK)
	ticks(w, 6)
	a := w.Packed()[0]
	data, e := packet.Put(api.Packet{Kind: api.Data, From: 1, ID: 1, Text: a.Blocks[0]})
	if e != api.OK || !slices.Equal(w.Done(), []int{1}) {
		t.Fatal(e)
	}
	do(t, w, api.Step{Kind: api.Inject, N: r, Text: data}, api.OK)
	ticks(w, 1)
	if w.Way() != 1 {
		t.Error("no answer of a side that is up", w.Way())
	}
	ticks(w, 1)
	do(t, w, api.Step{Kind: api.FuseR, N: 0}, api.OK)
	do(t, w, pack(1, 2), api.OK)
	ticks(w, 2)
	if w.Up(r) {
		t.Fatal("up")
	}
	before := w.Way()
	do(t, w, api.Step{Kind: api.FuseS, N: 0}, api.OK)
	do(t, w, pack(1, 3), api.ErrPower)
	do(t, w, api.Step{Kind: api.Inject, N: r, Text: data}, api.OK)
	ticks(w, 1)
	if before != 0 || w.Way() != 0 {
		t.Error("an answer of a side that is down", before, w.Way())
	}
}

// 32.2, 32.4: a block that is lost with its record is staged again.
func TestStagedAgain(t *testing.T) {
	w := made(t, 40, 40, api.Fair{})
	do(t, w, pack(2, 1), api.OK)
	drop := api.Fate{Drop: true}
	for _, f := range []api.Fate{{}, {}, drop, {}, drop} { // an offer, an ack, an offer, the two blocks
		do(t, w, api.Step{Kind: api.Fated, Fate: f}, api.OK)
	}
	ticks(w, 4)
	if !slices.Equal(w.Trace().Staged, []api.Writes{{ID: 1, I: 0, N: 1}}) {
		t.Fatal(w.Trace().Staged)
	}
	do(t, w, api.Step{Kind: api.CrashR, N: 0}, api.OK)
	ticks(w, 60)
	if !slices.Equal(w.Trace().Staged, []api.Writes{{ID: 1, I: 0, N: 2}, {ID: 1, I: 1, N: 1}}) || !slices.Equal(w.Done(), []int{1}) {
		t.Error(w.Trace().Staged, w.Done())
	}
}

// 32.2, 32.4: a block that was written is recorded, even if the power went off before its record was written.
func TestWrittenNotStaged(t *testing.T) {
	for fuse, n := range []int{0, 1, 1, 1} { // the block, a sync, the record
		w := made(t, 20, 20, api.Fair{})
		do(t, w, pack(1, 1), api.OK)
		ticks(w, 3)
		do(t, w, api.Step{Kind: api.FuseR, N: fuse}, api.OK)
		ticks(w, 1)
		want := []api.Writes{{ID: 1, I: 0, N: n}}[:n]
		if w.Up(r) || !slices.Equal(w.Trace().Staged, want) {
			t.Errorf("fuse %d: %v", fuse, w.Trace().Staged)
		}
		do(t, w, api.Step{Kind: api.CrashR}, api.OK)
		ticks(w, 60)
		if !slices.Equal(w.Trace().Staged, []api.Writes{{ID: 1, I: 0, N: n + 1}}) || !slices.Equal(w.Done(), []int{1}) {
			t.Errorf("fuse %d: %v, done %v", fuse, w.Trace().Staged, w.Done())
		}
	}
}

// 32.2
func TestInject(t *testing.T) {
	w := made(t, 40, 40, api.Fair{})
	do(t, w, api.Step{Kind: api.Inject, N: 2, Text: "x"}, api.ErrArg)
	do(t, w, api.Step{Kind: api.Inject, N: -1, Text: "x"}, api.ErrArg)
	if len(w.Trace().Injected) > 0 || w.Way() != 0 {
		t.Error("injected to nobody")
	}
	own, _ := archive.Pack("secret", world.Salt(9), 77, api.File{Path: "g", Data: "forged"})
	text, _ := header.Put(own.Head)
	offer, _ := packet.Put(api.Packet{Kind: api.Offer, From: 5, Text: text})
	data, _ := packet.Put(api.Packet{Kind: api.Data, From: 5, ID: 77, Text: own.Blocks[0]})
	do(t, w, api.Step{Kind: api.Inject, N: r, Text: "no packet", Fate: api.Fate{Drop: true, Copies: 3}}, api.OK)
	do(t, w, api.Step{Kind: api.Inject, N: r, Text: offer, Fate: api.Fate{Delay: 2}}, api.OK)
	do(t, w, api.Step{Kind: api.Inject, N: r, Text: data, Fate: api.Fate{Delay: 3}}, api.OK)
	do(t, w, api.Step{Kind: api.Inject, N: s, Text: ""}, api.OK)
	if w.Way() != 4 || !slices.Equal(w.Trace().Injected, []string{"no packet", offer, data, ""}) {
		t.Error(w.Way())
	}
	ticks(w, 1)
	if w.Way() != 2 {
		t.Error(w.Way())
	}
	ticks(w, 2)
	if len(w.Depot(r).Under()) != 1 {
		t.Error("the offer")
	}
	ticks(w, 1)
	if !sameAll(w.Kept(r), []api.Archive{own}) || !slices.Equal(w.Trace().Staged, []api.Writes{{ID: 77, I: 0, N: 1}}) {
		t.Error("the data")
	}
	w.Trace().Injected[0] = "changed"
	if w.Trace().Injected[0] != "no packet" {
		t.Error("shared")
	}
	// A forged Done for the archive that is being sent.
	do(t, w, pack(2, 1), api.OK)
	ticks(w, 1)
	root := w.Packed()[0].Head.Root
	done, _ := packet.Put(api.Packet{Kind: api.Done, From: 9, Seq: 9, ID: 1, Text: root})
	do(t, w, api.Step{Kind: api.Inject, N: s, Text: done}, api.OK)
	ticks(w, 1)
	if !slices.Equal(w.Done(), []int{1}) {
		t.Error("the forged packet was not heard")
	}
}

type source int

func (x *source) below(n int) int {
	*x = *x*6364136223846793005 + 1442695040888963407
	return (int(*x) >> 33 & 0xffffff) % n
}

// disturb performs a step that does no lasting harm.
func disturb(w *world.World, x *source, seed int) {
	switch k := x.below(20); {
	case k < 6:
		w.Do(api.Step{Kind: api.Fated, Fate: api.Fate{Drop: x.below(3) > 0, Delay: x.below(9), Copies: x.below(4)}})
	case k == 6:
		w.Do(pack(1+x.below(12), seed))
	case k == 7:
		w.Do(api.Step{Kind: api.FuseS + x.below(2), N: x.below(12)})
	case k == 8:
		w.Do(api.Step{Kind: api.CrashS + x.below(2), N: x.below(1 << 20)})
	default:
		w.Do(api.Step{Kind: api.Tick})
	}
}

// T1, 32.4: whatever happens without injected packets, what the receiver keeps was packed.
func TestKeptIsPacked(t *testing.T) {
	for seed := range 40 {
		x := source(seed)
		w := made(t, 80, 80, api.Fair{K: x.below(4), D: x.below(5)})
		files := map[int][]api.File{}
		for step := range 300 {
			before := len(w.Packed())
			epochs := [2]int{w.Depot(r).Epoch(), w.Depot(s).Epoch()}
			crashes := w.Trace().Crashes
			disturb(w, &x, seed+step)
			for i := before; i < len(w.Packed()); i++ {
				files[i+1], _ = archive.Extract("secret", w.Packed()[i])
			}
			for to, n := range w.Trace().Crashes {
				if n > crashes[to] && epochs[to] > 0 && w.Depot(to).Epoch() <= epochs[to] {
					t.Fatal("epochs")
				}
			}
			for _, a := range w.Kept(r) {
				got, e := archive.Extract("secret", a)
				if e != api.OK || !filemap.Same(got, files[a.Head.ID]) {
					t.Fatalf("seed %d, step %d: archive %d, %d", seed, step, a.Head.ID, e)
				}
			}
		}
		tr := w.Trace()
		for _, x := range tr.Staged {
			if x.N > 1+tr.Crashes[r] {
				t.Errorf("seed %d: %+v with %d crashes", seed, x, tr.Crashes[r])
			}
		}
		if tr.Flight > 8 {
			t.Error("in flight", tr.Flight)
		}
	}
}

// T3: what the sender keeps is kept by the receiver in the end, and the sender knows it.
func TestLive(t *testing.T) {
	for seed := range 25 {
		x := source(seed * 7)
		fair := api.Fair{K: 1 + x.below(3), D: x.below(4)}
		w := made(t, 60, 60, fair)
		for step := range 150 {
			disturb(w, &x, seed+step)
		}
		for _, kind := range []int{api.CrashS, api.CrashR} {
			w.Do(api.Step{Kind: kind, N: x.below(64)})
		}
		bound := 0
		for _, a := range w.Kept(s) {
			bound += (a.Head.N + 2) * (16*(fair.K*fair.K+2) + 2*(fair.D+2))
		}
		for range bound {
			w.Do(api.Step{Kind: api.Fated, Fate: api.Fate{Drop: x.below(2) > 0, Delay: x.below(9)}})
			w.Do(api.Step{Kind: api.Tick})
		}
		for _, a := range w.Kept(s) {
			if !slices.ContainsFunc(w.Kept(r), func(b api.Archive) bool { return archive.Same(a, b) }) {
				t.Errorf("seed %d: archive %d is not kept within %d ticks", seed, a.Head.ID, bound)
			}
		}
		for range bound {
			w.Do(api.Step{Kind: api.Tick})
		}
		done := w.Done()
		slices.Sort(done)
		if !slices.Equal(done, ids(w.Kept(s))) {
			t.Errorf("seed %d: done %d, not %d", seed, done, ids(w.Kept(s)))
		}
	}
}

// P1
func TestNil(t *testing.T) {
	var w *world.World
	tr := w.Trace()
	if w.Do(api.Step{}) != api.ErrNone || w.Do(api.Step{Kind: 99}) != api.ErrNone || w.Now() != 0 || w.Up(r) || w.Depot(s) != nil || len(w.Kept(r)) > 0 || len(w.Packed()) > 0 || len(w.Done()) > 0 || w.Way() != 0 || len(tr.Tagged)+len(tr.Injected)+len(tr.Staged) > 0 {
		t.Error("nil")
	}
	w = made(t, 20, 20, api.Fair{})
	for _, to := range []int{-1, 2, math.MinInt, math.MaxInt} {
		if w.Up(to) || w.Depot(to) != nil || len(w.Kept(to)) > 0 {
			t.Error("a side that does not exist", to)
		}
	}
	if len(world.Salt(-1)) != 16 || len(world.Salt(math.MaxInt)) != 16 {
		t.Error("salt")
	}
}
