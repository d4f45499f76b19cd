package script_test

import (
	"math"
	"slices"
	"strconv"
	"strings"
	"testing"

	"sledge/api"
	"sledge/script"
	"sledge/world"
)

func sameStep(a, b api.Step) bool {
	return a.Kind == b.Kind && a.N == b.N && a.Text == b.Text && a.Fate == b.Fate && slices.Equal(a.Files, b.Files)
}

func same(a, b script.Script) bool {
	return a.From == b.From && a.To == b.To && a.Fair == b.Fair && slices.EqualFunc(a.Steps, b.Steps, sameStep)
}

func tick(n int) []api.Step {
	return slices.Repeat([]api.Step{{Kind: api.Tick}}, n)
}

const first = "world 13 1024 1000 64\n"

// 36.1, 36.2
func TestSteps(t *testing.T) {
	for _, x := range []struct {
		line  string
		steps []api.Step
	}{
		{"pack 66:6869", []api.Step{{Kind: api.Pack, Files: []api.File{{Path: "f", Data: "hi"}}}}},
		{"pack", []api.Step{{Kind: api.Pack}}},
		{"pack 62:- 61:00ff", []api.Step{{Kind: api.Pack, Files: []api.File{{Path: "b"}, {Path: "a", Data: "\x00\xff"}}}}},
		{"tick 1", tick(1)}, {"tick 1000", tick(1000)},
		{"fuse sender 5", []api.Step{{Kind: api.FuseS, N: 5}}}, {"fuse receiver -1", []api.Step{{Kind: api.FuseR, N: -1}}}, {"fuse sender 4611686018427387903", []api.Step{{Kind: api.FuseS, N: 1<<62 - 1}}},
		{"crash sender 0", []api.Step{{Kind: api.CrashS}}}, {"crash receiver 4611686018427387903", []api.Step{{Kind: api.CrashR, N: 1<<62 - 1}}}, {"crash receiver -1", []api.Step{{Kind: api.CrashR, N: -1}}},
		{"inject sender - 0", []api.Step{{Kind: api.Inject, N: 1}}}, {"inject receiver 0aff 64", []api.Step{{Kind: api.Inject, Text: "\x0a\xff", Fate: api.Fate{Delay: 64}}}},
		{"fate drop", []api.Step{{Kind: api.Fated, Fate: api.Fate{Drop: true}}}}, {"fate 0 0", []api.Step{{Kind: api.Fated}}}, {"fate 64 3", []api.Step{{Kind: api.Fated, Fate: api.Fate{Delay: 64, Copies: 3}}}},
		{"tick 3\nfate drop\ntick 2", slices.Concat(tick(3), []api.Step{{Kind: api.Fated, Fate: api.Fate{Drop: true}}}, tick(2))},
	} {
		text := first + x.line + "\n"
		want := script.Script{From: 13, To: 1024, Fair: api.Fair{K: 1000, D: 64}, Steps: x.steps}
		s, n, e := script.Parse(text)
		if !same(s, want) || n != 0 || e != api.OK {
			t.Errorf("%q: %+v %d %d", x.line, s, n, e)
		}
		if got := script.Print(want); got != text {
			t.Errorf("%q is printed as %q", x.line, got)
		}
	}
}

// 36.1
func TestWrongLines(t *testing.T) {
	for _, line := range []string{
		"", " ", "tick", "tick 0", "tick 1001", "tick -1", "tick 01", "tick +1", "tick 1 ", " tick 1", "tick  1", "tick 1 1", "tick x", "Tick 1", "tick\t1", "tick 99999999999999999999", "tick 1\r", "tock 1",
		"fuse", "fuse sender", "fuse both 1", "fuse sender -2", "fuse sender -0", "fuse sender 4611686018427387904", "fuse sender 1 1", "fuse 1 sender", "crash receiver", "crash receiver x", "crash receiver -2", "crash Receiver 1", "crash  1",
		"inject", "inject sender 00", "inject sender 0 0", "inject sender 0g 0", "inject sender 0A 0", "inject sender -- 0", "inject sender  0", "inject sender 00 65", "inject sender 00 -1", "inject sender 00 0 0", "inject nobody 00 0",
		"fate", "fate drop 1", "fate 1", "fate 65 0", "fate 0 4", "fate -1 0", "fate 0 -1", "fate 0 0 0", "fate drops", "fate 00 0",
		"pack 66", "pack 66:", "pack :68", "pack -:68", "pack 66:68:69", "pack 66:6", "pack 66:68 ", "pack  66:68", "pack 66:68 66:-", "pack 66:- 662f67:-", "pack 2f:-", "pack 6600:-", "pack 66:FF", "pack " + strings.Repeat("66:- ", 2) + "67:-",
		"world 13 13 0 0",
	} {
		for k, before := range []string{"", "tick 1\n", "tick 1\nfate drop\n"} {
			s, n, e := script.Parse(first + before + line + "\ntick 0\n")
			if !same(s, script.Script{}) || n != 2+k || e != api.ErrForm {
				t.Errorf("%q after %q: %d %d", line, before, n, e)
			}
		}
	}
	for _, line := range []string{"", "world", "world 13 13 0", "world 13 13 0 0 0", "world 12 13 0 0", "world 13 12 0 0", "world 1025 13 0 0", "world 13 1025 0 0", "world 13 13 -1 0", "world 13 13 1001 0", "world 13 13 0 65", "world 13 13 0 -1", "world 013 13 0 0", "world 13  13 0 0", "World 13 13 0 0", "tick 1", "world 13 13 0 0 "} {
		if s, n, e := script.Parse(line + "\ntick 1\n"); !same(s, script.Script{}) || n != 1 || e != api.ErrForm {
			t.Errorf("%q: %d %d", line, n, e)
		}
	}
}

// 36.1
func TestEndsAndLimits(t *testing.T) {
	long := first + "inject sender " + strings.Repeat("00", (script.MaxText-len(first)-17)/2) + " 0\n"
	for i, x := range []struct {
		text string
		n    int
		e    api.Errno
	}{
		{"", 1, api.ErrForm}, {"\n", 1, api.ErrForm}, {"world 13 13 0 0", 1, api.ErrForm}, {"world 13 13 0 0\n", 0, api.OK}, {"world 13 13 0 0\ntick 1", 2, api.ErrForm}, {"x\ny\nz", 3, api.ErrForm}, {"world 13 13 0 0\ntick 0\ntick 1", 3, api.ErrForm}, {"world 13 13 0 0\n\n", 2, api.ErrForm}, {"world 13 13 0 0\ntick 0\n", 2, api.ErrForm},
		{long, 0, api.OK}, {long + strings.Repeat("x", script.MaxText+1-len(long)), 0, api.ErrFull}, {strings.Repeat("\n", script.MaxText), 1, api.ErrForm}, {strings.Repeat("x", script.MaxText), 1, api.ErrForm}, {strings.Repeat("x", script.MaxText+1), 0, api.ErrFull},
		{first + strings.Repeat("tick 1000\n", 4) + "tick 96\n", 0, api.OK}, {first + strings.Repeat("tick 1000\n", 4) + "tick 97\n", 6, api.ErrForm}, {first + strings.Repeat("tick 1000\n", 4) + "tick 96\nfate drop\nx\n", 7, api.ErrForm}, {first + strings.Repeat("tick 1000\n", 4) + "tick 95\nfate drop\nx\n", 8, api.ErrForm},
		{first + strings.Repeat("fate drop\n", 4096), 0, api.OK}, {first + strings.Repeat("fate drop\n", 4097), 4098, api.ErrForm},
	} {
		s, n, e := script.Parse(x.text)
		if n != x.n || e != x.e || e != api.OK && !same(s, script.Script{}) {
			t.Errorf("text %d: %d %d", i, n, e)
		}
	}
	if script.MaxText != 262144 || script.MaxSteps != 4096 || script.MaxTicks != 1000 {
		t.Error("limits")
	}
}

// 36.2
func TestPrint(t *testing.T) {
	f := func(n int) api.Step { return api.Step{Kind: api.Fated, Fate: api.Fate{Delay: n}} }
	for i, x := range []struct {
		s    script.Script
		want string
	}{
		{script.Script{}, "world 0 0 0 0\n"}, {script.Script{From: -5, To: 9999, Fair: api.Fair{K: -1, D: 70}}, "world -5 9999 -1 70\n"},
		{script.Script{Steps: tick(2500)}, "world 0 0 0 0\ntick 1000\ntick 1000\ntick 500\n"}, {script.Script{Steps: tick(2000)}, "world 0 0 0 0\ntick 1000\ntick 1000\n"}, {script.Script{Steps: slices.Concat(tick(1001), []api.Step{f(1)}, tick(7), []api.Step{f(2), f(3)}, tick(1))}, "world 0 0 0 0\ntick 1000\ntick 1\nfate 1 0\ntick 7\nfate 2 0\nfate 3 0\ntick 1\n"},
		{script.Script{Steps: []api.Step{{Kind: 8}, {Kind: -1}, f(5), {Kind: math.MaxInt}}}, "world 0 0 0 0\nfate 5 0\n"},
		{script.Script{Steps: []api.Step{{Kind: api.Inject, N: 2, Text: "a"}, {Kind: api.Inject, N: 3}, {Kind: api.Inject, N: -1, Fate: api.Fate{Drop: true, Delay: -9, Copies: 2}}}}, "world 0 0 0 0\ninject receiver 61 0\ninject sender - 0\ninject sender - -9\n"},
		{script.Script{Steps: []api.Step{{Kind: api.Fated, Fate: api.Fate{Drop: true, Delay: 5, Copies: 1}}, {Kind: api.Fated, N: 9, Text: "x", Fate: api.Fate{Delay: -5, Copies: 99}}}}, "world 0 0 0 0\nfate drop\nfate -5 99\n"},
		{script.Script{Steps: []api.Step{{Kind: api.FuseR, N: math.MinInt}, {Kind: api.Pack, Files: []api.File{{}, {Path: "/", Data: "x"}}}}}, "world 0 0 0 0\nfuse receiver " + strconv.Itoa(math.MinInt) + "\npack -:- 2f:78\n"},
	} {
		if got := script.Print(x.s); got != x.want {
			t.Errorf("script %d: %q", i, got)
		}
	}
}

// 36.2
func TestHexAndConfig(t *testing.T) {
	for s, want := range map[string]string{"": "-", "hi": "6869", "\x00\x0f\xf0\xff": "000ff0ff", "-": "2d"} {
		if got := script.Hex(s); got != want {
			t.Errorf("Hex(%q) = %q", s, got)
		}
	}
	s := script.Script{From: 20, To: 30, Fair: api.Fair{K: 4, D: 5}, Steps: tick(3)}
	if got := s.Config("secret"); got != (world.Config{Secret: "secret", From: 20, To: 30, Fair: api.Fair{K: 4, D: 5}}) {
		t.Error(got)
	}
}

// 36.3
func TestRoundTrip(t *testing.T) {
	x := 1
	below := func(n int) int { x = x*6364136223846793005 + 1442695040888963407; return (x >> 33 & 0xffffff) % n }
	for range 200 {
		lines := []string{"world " + strconv.Itoa(13+below(1012)) + " " + strconv.Itoa(13+below(1012)) + " " + strconv.Itoa(below(1001)) + " " + strconv.Itoa(below(65))}
		for range below(30) {
			who := []string{"sender", "receiver"}[below(2)]
			n := strconv.Itoa(below(65))
			lines = append(lines, []string{"pack 61:" + script.Hex(strings.Repeat("x", below(40))) + " 62:-", "pack", "tick " + strconv.Itoa(1+below(100)), "fuse " + who + " " + n, "crash " + who + " -1", "inject " + who + " " + script.Hex(strings.Repeat("\xf0", below(9))) + " " + n, "fate drop", "fate " + n + " 2"}[below(8)])
		}
		s, n, e := script.Parse(strings.Join(lines, "\n") + "\n")
		if n != 0 || e != api.OK {
			t.Fatal(lines, n, e)
		}
		again, n, e := script.Parse(script.Print(s))
		if !same(again, s) || n != 0 || e != api.OK {
			t.Fatal(lines, n, e)
		}
	}
}
