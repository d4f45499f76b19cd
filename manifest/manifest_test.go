package manifest_test

import (
	"encoding/hex"
	"slices"
	"strconv"
	"strings"
	"testing"

	"sledge/api"
	"sledge/archive"
	"sledge/depot"
	"sledge/disk"
	"sledge/filemap"
	"sledge/header"
	"sledge/mac"
	"sledge/manifest"
	"sledge/world"
)

func head(id int) api.Header {
	h := api.Header{ID: id, Salt: "0123456789abcdef", N: 1 + id%9, Bytes: (1+id%9)*192 - id%90, Raw: 1000 + id%1000, Root: strings.Repeat("r", 31) + string([]byte{byte(id)})}
	return header.Sign("any", h)
}

func heads(from, to int) []api.Header {
	var l []api.Header
	for id := from; id <= to; id++ {
		l = append(l, head(id))
	}
	return l
}

func hexed(s string) string { return hex.EncodeToString([]byte(s)) }

func line(h api.Header) string {
	return strconv.Itoa(h.ID) + " " + strconv.Itoa(h.N) + " " + strconv.Itoa(h.Bytes) + " " + strconv.Itoa(h.Raw) + " " + hexed(h.Salt) + " " + hexed(h.Root) + " " + hexed(h.Tag) + "\n"
}

const first = "sledge manifest 1\n"

// tagged adds the tag line to a text.
func tagged(text string) string { return text + "tag " + hexed(mac.Tag("key", text)) + "\n" }

// 46.1
func TestPut(t *testing.T) {
	for i, x := range []struct {
		l    []api.Header
		want string
	}{
		{nil, tagged(first)}, {heads(7, 7), tagged(first + line(head(7)))}, {[]api.Header{head(9), head(2), head(1<<32 - 1), head(5)}, tagged(first + line(head(2)) + line(head(5)) + line(head(9)) + line(head(1<<32-1)))},
	} {
		keep := slices.Clone(x.l)
		if s, e := manifest.Put("key", x.l...); s != x.want || e != api.OK || !slices.Equal(keep, x.l) {
			t.Errorf("case %d: %q %d", i, s, e)
		}
	}
	bad := head(3)
	bad.Raw = 0
	none := head(3)
	none.ID = 0
	for i, x := range []struct {
		l []api.Header
		e api.Errno
	}{
		{heads(1, 256), api.OK}, {heads(1, 257), api.ErrFull}, {slices.Repeat([]api.Header{{}}, 257), api.ErrFull}, {[]api.Header{head(2), head(2)}, api.ErrDup}, {[]api.Header{head(2), head(1), head(2)}, api.ErrDup}, {[]api.Header{bad}, api.ErrArg}, {[]api.Header{none, head(1)}, api.ErrArg}, {[]api.Header{{}}, api.ErrArg},
		{[]api.Header{bad, head(2), head(2)}, api.ErrDup}, {[]api.Header{head(5), head(5), bad}, api.ErrArg}, {[]api.Header{head(3), bad}, api.ErrArg}, {[]api.Header{bad, head(3)}, api.ErrArg},
	} {
		if s, e := manifest.Put("key", x.l...); e != x.e || e != api.OK && s != "" {
			t.Errorf("case %d: %d", i, e)
		}
	}
	if manifest.Most != 256 {
		t.Error(manifest.Most)
	}
}

// 46.2, 46.4
func TestTake(t *testing.T) {
	for i, l := range [][]api.Header{nil, heads(3, 3), heads(1, 256), {head(40), head(2), head(77)}} {
		s, _ := manifest.Put("key", l...)
		slices.SortFunc(l, func(a, b api.Header) int { return a.ID - b.ID })
		if got, n, e := manifest.Take("key", s); !slices.Equal(got, l) || n != 0 || e != api.OK {
			t.Errorf("list %d: %d %d", i, n, e)
		}
		if got, n, e := manifest.Take("other", s); len(got) > 0 || n != len(l)+2 || e != api.ErrTag {
			t.Errorf("list %d, another key: %d %d", i, n, e)
		}
	}
}

// 46.2
func TestTakeErrors(t *testing.T) {
	a, b, c := line(head(2)), line(head(5)), line(head(9))
	bad := head(3)
	bad.Raw = 0
	good := tagged(first + a + b)
	tag := good[len(first+a+b):]
	many := first
	for _, h := range heads(1, 256) {
		many += line(h)
	}
	for i, x := range []struct {
		text string
		n    int
		e    api.Errno
	}{
		{good, 0, api.OK}, {"", 1, api.ErrForm}, {"sledge manifest 1", 1, api.ErrForm}, {"sledge manifest 2\n" + a, 1, api.ErrForm}, {" " + good, 1, api.ErrForm}, {"sledge manifest 1 \n", 1, api.ErrForm}, {"\n" + good, 1, api.ErrForm}, {"Sledge manifest 1\n", 1, api.ErrForm},
		{first, 2, api.ErrForm}, {first + a, 3, api.ErrForm}, {first + a + b, 4, api.ErrForm}, {first + a + b[:len(b)-1], 4, api.ErrForm}, {first + a + b[:len(b)-2], 3, api.ErrForm}, {first + a[:len(a)-1], 3, api.ErrForm}, {first + "x", 2, api.ErrForm},
		{tagged(first + b + a), 3, api.ErrForm}, {tagged(first + a + a), 3, api.ErrForm}, {tagged(first + a + "\n" + b), 3, api.ErrForm}, {tagged(first + line(bad)), 2, api.ErrForm}, {tagged(first + a + line(bad) + c), 3, api.ErrForm}, {tagged(first + " " + a), 2, api.ErrForm}, {tagged(first + a[:len(a)-1] + " \n"), 2, api.ErrForm}, {tagged(first + a[:len(a)-1] + " x\n"), 2, api.ErrForm},
		{tagged(first + "0" + a), 2, api.ErrForm}, {tagged(first + "+" + a), 2, api.ErrForm}, {tagged(first + strings.Replace(a, " ", "  ", 1)), 2, api.ErrForm}, {tagged(first + strings.Replace(a, "30313233", "3031323", 1)), 2, api.ErrForm}, {tagged(first + strings.Replace(a, "6364", "6364"+"00", 1)), 2, api.ErrForm}, {tagged(first + strings.Replace(a, "61626364", "6162636g", 1)), 2, api.ErrForm}, {tagged(first + strings.ToUpper(a)), 2, api.ErrForm}, {tagged(first + strings.Replace(a, "2 3 ", "2 4 ", 1)), 2, api.ErrForm}, {tagged(first + a + "tagx\n"), 3, api.ErrForm}, {tagged(first + a + "tag\n"), 3, api.ErrForm},
		{first + a + tag, 3, api.ErrTag}, {first + a + b + "tag " + strings.Repeat("00", 32) + "\n", 4, api.ErrTag}, {tagged(first + a + b + c)[:len(first+a+b+c)] + tag, 5, api.ErrTag}, {first + a + b + tag[:len(tag)-1], 4, api.ErrForm}, {first + a + b + tag[:len(tag)-2] + "\n", 4, api.ErrForm}, {first + a + b + tag[:len(tag)-3] + "\n", 4, api.ErrForm}, {first + a + b + tag[:len(tag)-1] + "00\n", 4, api.ErrForm}, {first + a + b + "tag \n", 4, api.ErrForm}, {first + a + b + "tag -\n", 4, api.ErrForm}, {first + a + b + "tag  " + tag[4:], 4, api.ErrForm},
		{first + a + b + strings.ToUpper(tag), 4, api.ErrForm}, {first + a + b + "tag " + strings.ToUpper(tag[4:]), 4, api.ErrForm}, {first + a + b + tag[:len(tag)-2] + "g\n", 4, api.ErrForm}, {good + "\n", 4, api.ErrForm}, {good + "x", 4, api.ErrForm}, {good + c, 4, api.ErrForm}, {good + tag, 4, api.ErrForm}, {first + tag + a, 2, api.ErrForm}, {first + "tag x\n" + a + "z\n", 2, api.ErrForm},
		{tagged(many), 0, api.OK}, {tagged(many + line(head(257))), 258, api.ErrFull}, {tagged(many + line(head(257)) + "x\n"), 258, api.ErrFull}, {many + line(head(257)), 258, api.ErrFull}, {many, 258, api.ErrForm},
	} {
		l, n, e := manifest.Take("key", x.text)
		if n != x.n || e != x.e || e != api.OK && len(l) > 0 {
			t.Errorf("case %d: %d %d, not %d %d", i, n, e, x.n, x.e)
		}
	}
	for i := range len(good) {
		changed := []byte(good)
		changed[i] ^= 1
		if l, n, e := manifest.Take("key", string(changed)); e == api.OK || len(l) > 0 || n < 1 {
			t.Errorf("byte %d changed: %d %d", i, n, e)
		}
	}
}

// 46.3
func TestHold(t *testing.T) {
	other := head(4)
	other.Raw++
	for i, x := range []struct {
		have, want            []api.Header
		missing, extra, wrong []int
	}{
		{nil, nil, nil, nil, nil}, {heads(1, 5), heads(1, 5), nil, nil, nil}, {heads(1, 3), heads(2, 6), []int{4, 5, 6}, []int{1}, nil}, {nil, []api.Header{head(9), head(3)}, []int{3, 9}, nil, nil}, {[]api.Header{head(9), head(3)}, nil, nil, []int{3, 9}, nil},
		{[]api.Header{head(5), head(4)}, []api.Header{other, head(5)}, nil, nil, []int{4}}, {[]api.Header{other, head(4)}, []api.Header{head(4)}, nil, nil, []int{4}}, {[]api.Header{head(4), other}, []api.Header{head(4)}, nil, nil, nil}, {[]api.Header{head(4)}, []api.Header{head(4), other}, nil, nil, []int{4}},
		{[]api.Header{head(7), head(7), head(2), other}, []api.Header{head(8), other, head(8), head(4), head(4)}, []int{8}, []int{2, 7}, []int{4}}, {[]api.Header{{ID: -5}, {}}, []api.Header{{ID: -5, Raw: 1}, {ID: -9}}, []int{-9}, []int{0}, []int{-5}},
	} {
		keep, keep2 := slices.Clone(x.have), slices.Clone(x.want)
		a, b, c := manifest.Hold(x.have, x.want)
		if !slices.Equal(a, x.missing) || !slices.Equal(b, x.extra) || !slices.Equal(c, x.wrong) {
			t.Errorf("case %d: %d %d %d", i, a, b, c)
		}
		if !slices.Equal(keep, x.have) || !slices.Equal(keep2, x.want) {
			t.Error("arguments are changed")
		}
	}
}

// 46.4
func TestDepot(t *testing.T) {
	d, _ := disk.New(60)
	p, _ := depot.Open(d, "secret")
	for _, id := range []int{5, 2, 8} {
		a, _ := archive.Pack("secret", "0123456789abcdef", id, api.File{Path: "f"})
		if e := p.Add("secret", a); e != api.OK {
			t.Fatal(e)
		}
	}
	s, _ := manifest.Put("key", p.Kept()...)
	l, _, e := manifest.Take("key", s)
	a, b, c := manifest.Hold(p.Kept(), l)
	if e != api.OK || len(l) != 3 || len(a)+len(b)+len(c) > 0 {
		t.Error(e, a, b, c)
	}
}

// T6
func TestWorld(t *testing.T) {
	w, e := world.New(world.Config{Secret: "secret", From: 60, To: 60, Fair: api.Fair{K: 2, D: 3}})
	if e != api.OK {
		t.Fatal(e)
	}
	files := map[int][]api.File{}
	for id := 1; id < 5; id++ {
		files[id] = []api.File{{Path: "b", Data: strings.Repeat("text", id*99)}, {Path: "a", Data: strconv.Itoa(id)}}
		w.Do(api.Step{Kind: api.Pack, Files: files[id]})
	}
	s, e := manifest.Put("key", w.Depot(api.ToSender).Kept()...)
	if e != api.OK {
		t.Fatal(e)
	}
	for i := range 3000 {
		w.Do(api.Step{Kind: api.Fated, Fate: api.Fate{Drop: i%3 > 0, Delay: i % 7}})
		if i == 40 {
			w.Do(api.Step{Kind: api.CrashR, N: 5})
		}
		w.Do(api.Step{Kind: api.Tick})
	}
	want, _, e := manifest.Take("key", s)
	a, b, c := manifest.Hold(w.Depot(api.ToReceiver).Kept(), want)
	if e != api.OK || len(want) != 4 || len(a)+len(b)+len(c) > 0 {
		t.Error(e, a, b, c)
	}
	for _, x := range w.Kept(api.ToReceiver) {
		got, e := archive.Extract("secret", x)
		if e != api.OK || !filemap.Same(got, files[x.Head.ID]) {
			t.Error(x.Head.ID, e)
		}
	}
}
