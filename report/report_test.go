package report_test

import (
	"math"
	"strconv"
	"strings"
	"testing"

	"sledge/api"
	"sledge/archive"
	"sledge/header"
	"sledge/kdf"
	"sledge/packet"
	"sledge/report"
	"sledge/script"
	"sledge/world"
)

func text(l ...string) string {
	return strings.Join(l, "\n") + "\n"
}

func runs(t *testing.T, in, want string) {
	t.Helper()
	got, n, e := report.Run("secret", in)
	if got != want || n != 0 || e != api.OK {
		t.Errorf("%.99q:\n%s%d %d, not\n%s", in, got, n, e, want)
	}
}

// 38.1
func TestError(t *testing.T) {
	for i, want := range []string{"ok", "argument", "form", "full", "tag", "path", "double", "power", "none", "state", "range", "root", "limit", "space", "error 14", "error 15"} {
		if got := report.Error(api.Errno(i)); got != want {
			t.Errorf("Error(%d) = %q", i, got)
		}
	}
	if report.Error(-1) != "error -1" || report.Error(math.MaxInt) != "error "+strconv.Itoa(math.MaxInt) || report.Error(math.MinInt) != "error "+strconv.Itoa(math.MinInt) {
		t.Error("others")
	}
}

// 38.2
func TestExample(t *testing.T) {
	runs(t, text("world 20 20 0 0", "pack 61:78", "tick 6"), text(
		"now 6 packed 1 way 0", "sender epoch 1", "sender keeps 1 1 blocks", "receiver epoch 1", "receiver keeps 1 1 blocks", "done 1", "state ok",
		"archive 1 61 1 bytes", "staged 1 at most 1 times", "crashes 0 0", "flight 1 injected 0"))
	runs(t, text("world 20 20 1 0"), text(
		"now 0 packed 0 way 0", "sender epoch 1", "receiver epoch 1", "state ok", "staged 0 at most 0 times", "crashes 0 0", "flight 0 injected 0", "bound 0"))
}

// 38.2
func TestErrors(t *testing.T) {
	for _, x := range []struct {
		text string
		n    int
		e    api.Errno
	}{
		{"world 20 20 0 0\ntick 1\ntick 0\n", 3, api.ErrForm}, {"", 1, api.ErrForm}, {"world 20 20 0 0\ntick 1", 2, api.ErrForm}, {strings.Repeat("x", script.MaxText+1), 0, api.ErrFull},
	} {
		if s, n, e := report.Run("secret", x.text); s != "" || n != x.n || e != x.e {
			t.Errorf("%.30q: %q %d %d", x.text, s, n, e)
		}
	}
}

func noise(n int) string {
	b := make([]byte, n)
	x := n
	for i := range b {
		x = x*6364136223846793005 + 1442695040888963407
		b[i] = byte(x >> 40)
	}
	return string(b)
}

// 38.2
func TestTrouble(t *testing.T) {
	big := script.Hex(noise(12*192 - 30))
	runs(t, text("world 40 40 2 3", "pack 66:"+big, "pack 61:- 622f63:787878", "tick 4", "pack 7a:"+script.Hex(noise(30*192)), "fuse receiver 3", "tick 2", "crash receiver 0", "tick 1", "crash sender -1"), text(
		"step 6 space", "now 7 packed 3 way 4", "sender epoch 2", "sender keeps 1 12 blocks", "sender keeps 2 1 blocks", "receiver epoch 2",
		"under 1 8 of 12 blocks", "state ok", "staged 9 at most 1 times", "crashes 1 1", "flight 8 injected 0", "bound "+strconv.Itoa((14+3)*(16*6+10))))
	runs(t, text("world 40 40 1 0", "pack 66:"+big, "pack 61:- 622f63:787878", "tick 30", "fuse sender 0", "fuse receiver 1", "pack 78:79", "pack 78:79", "tick 1", "inject sender - 64"), text(
		"step 34 power", "step 35 power", "now 31 packed 3 way 1", "sender down", "receiver epoch 1", "receiver keeps 1 12 blocks", "receiver keeps 2 1 blocks", "state ok",
		"archive 1 66 2274 bytes", "archive 2 61 0 bytes", "archive 2 622f63 3 bytes", "staged 13 at most 1 times", "crashes 0 0", "flight 8 injected 1"))
	runs(t, text("world 40 40 0 0", "pack 66:"+script.Hex(noise(2*192-30)), "fate 0 0", "fate 0 0", "fate drop", "fate 0 0", "fate drop", "tick 4", "crash receiver 0", "tick 60"), text(
		"now 64 packed 1 way 0", "sender epoch 1", "sender keeps 1 2 blocks", "receiver epoch 2", "receiver keeps 1 2 blocks", "done 1", "state ok", "archive 1 66 354 bytes", "staged 3 at most 2 times", "crashes 0 1", "flight 2 injected 0"))
	runs(t, text("world 40 40 1 0", "pack 61:62", "tick 1", "fuse receiver 0", "tick 3"), text(
		"now 4 packed 1 way 0", "sender epoch 1", "sender keeps 1 1 blocks", "receiver down", "staged 0 at most 0 times", "crashes 0 0", "flight 0 injected 0", "bound 156"))
}

// forged returns lines that inject an archive.
func forged(a api.Archive) []string {
	head, _ := header.Put(a.Head)
	offer, _ := packet.Put(api.Packet{Kind: api.Offer, From: 9, Text: head})
	lines := []string{"inject receiver " + script.Hex(offer) + " 0"}
	for i, b := range a.Blocks {
		data, _ := packet.Put(api.Packet{Kind: api.Data, From: 9, ID: a.Head.ID, I: i, Text: b})
		lines = append(lines, "inject receiver "+script.Hex(data)+" 1")
	}
	return lines
}

// 38.2
func TestForged(t *testing.T) {
	a, _ := archive.Pack("secret", world.Salt(7), 7, api.File{Path: "g", Data: "forged"})
	bad := api.Archive{Head: a.Head, Blocks: []string{strings.Repeat("b", 224)}}
	bad.Head.Root = archive.Root(bad.Blocks...)
	bad.Head.ID = 8
	bad.Head = header.Sign(kdf.Keys("secret", "").Head, bad.Head)
	lines := append(append([]string{"world 20 20 0 0"}, forged(a)...), forged(bad)...)
	runs(t, text(append(lines, "pack 61:-", "tick 4")...), text(
		"now 4 packed 1 way 2", "sender epoch 1", "sender keeps 1 1 blocks", "receiver epoch 1", "receiver keeps 1 1 blocks", "receiver keeps 7 1 blocks", "receiver keeps 8 1 blocks", "state none",
		"blame 7 an offer", "blame 8 an offer", "archive 1 61 0 bytes", "archive 7 67 6 bytes", "archive 8 tag", "staged 3 at most 1 times", "crashes 0 0", "flight 1 injected 4"))
}

// 38.3
func TestSound(t *testing.T) {
	for seed := range 20 {
		x := seed
		below := func(n int) int {
			x = x*6364136223846793005 + 1442695040888963407
			return (x >> 33 & 0xffffff) % n
		}
		lines := []string{"world 60 60 " + strconv.Itoa(below(4)) + " 2"}
		for range 80 {
			n := strconv.Itoa(below(30))
			who := []string{"sender", "receiver"}[below(2)]
			lines = append(lines, []string{"pack 61:" + script.Hex(strings.Repeat("y", below(900))), "tick 3", "fuse " + who + " " + n, "crash " + who + " " + n, "fate drop", "fate " + n + " 1", "tick 7"}[below(7)])
		}
		s, _, e := report.Run("secret", text(append(lines, "crash receiver 5")...))
		if e != api.OK || !strings.Contains(s, "\nstate ok\n") {
			t.Errorf("seed %d: %s", seed, s)
		}
	}
}
