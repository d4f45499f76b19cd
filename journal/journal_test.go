package journal_test

import (
	"math"
	"strings"
	"testing"

	"sledge/api"
	"sledge/bitset"
	"sledge/header"
	"sledge/journal"
)

func head(n int) api.Header {
	return api.Header{ID: 7, Salt: "0123456789abcdef", N: n, Bytes: n*192 - 5, Raw: 70000, Root: strings.Repeat("r", 32), Tag: strings.Repeat("t", 32)}
}

func record(n, base int, l ...int) journal.Record {
	got := bitset.New(n)
	for _, i := range l {
		got = got.With(i)
	}
	return journal.Record{Extent: api.Extent{Head: head(n), Base: base}, Got: got}
}

// 23.1, 23.2
func TestGood(t *testing.T) {
	for i, r := range []journal.Record{record(5, 13, 0, 3), record(1, 0), record(1, 1023, 0), record(256, 768, 0, 63, 64, 255), record(256, 0), record(2, 1022, 1)} {
		if e := journal.Check(r); e != api.OK {
			t.Errorf("record %d: %d", i, e)
		}
		s, e := journal.Put(r)
		h, _ := header.Put(r.Head)
		want := "SLJ1" + h + string([]byte{byte(r.Base >> 8), byte(r.Base)}) + r.Got.Put()
		if s != want || len(s) != 136 || e != api.OK {
			t.Errorf("record %d: %x %d", i, s, e)
		}
		for _, zeros := range []int{0, 1, 120, 1000} {
			if got, e := journal.Take(s + strings.Repeat("\x00", zeros)); got != r || e != api.OK {
				t.Errorf("record %d, %d zeros: %d", i, zeros, e)
			}
		}
	}
	s, _ := journal.Put(record(5, 13, 0, 3))
	if s[102:] != "\x00\x0d"+strings.Repeat("\x00", 7)+"\x09"+strings.Repeat("\x00", 24) {
		t.Errorf("%x", s[102:])
	}
}

// 23.1
func TestWrong(t *testing.T) {
	size := record(5, 13)
	size.Got = bitset.New(6)
	less := record(5, 13)
	less.Got = bitset.New(4)
	zero := record(5, 13)
	zero.Head = api.Header{}
	id := record(5, 13)
	id.Head.ID = 0
	huge := record(5, 13)
	huge.Head.N = math.MaxInt
	for i, r := range []journal.Record{size, less, zero, id, huge, {}, record(5, -1), record(5, 1020), record(1, 1024), record(256, 769), record(5, math.MaxInt), record(5, math.MinInt), record(5, 1<<16+13)} {
		if e := journal.Check(r); e != api.ErrArg {
			t.Errorf("record %d: %d", i, e)
		}
		if s, e := journal.Put(r); s != "" || e != api.ErrArg {
			t.Errorf("record %d: %d", i, e)
		}
	}
}

// 23.1
func TestTakeErrors(t *testing.T) {
	s, _ := journal.Put(record(5, 13, 0, 3))
	at, _ := journal.Put(record(5, 1019))
	for _, x := range []struct {
		s string
		e api.Errno
	}{
		{"", api.ErrNone}, {"\x00", api.ErrNone}, {strings.Repeat("\x00", 256), api.ErrNone}, {"x", api.ErrForm}, {strings.Repeat("\x00", 255) + "\x01", api.ErrForm}, {"SLJ1", api.ErrForm},
		{s[:135], api.ErrForm}, {s[1:] + "\x00", api.ErrForm}, {s + "x", api.ErrForm}, {s + strings.Repeat("\x00", 100) + "\x01", api.ErrForm}, {"SLC1" + s[4:], api.ErrForm}, {"\x00" + s, api.ErrForm}, {s + s, api.ErrForm},
		{s[:4] + "x" + s[5:], api.ErrForm}, {s[:8] + "\x00" + s[9:], api.OK}, {s[:102] + "\x03\xfc" + s[104:], api.ErrForm}, {s[:102] + "\xff\xff" + s[104:], api.ErrForm}, {at[:102] + "\x03\xfb" + at[104:], api.OK},
		{s[:111] + "\x29" + s[112:], api.ErrForm}, {s[:135] + "\x01", api.ErrForm}, {s[:111] + "\x19" + s[112:], api.OK},
	} {
		r, e := journal.Take(x.s)
		if e != x.e || e != api.OK && r != (journal.Record{}) {
			t.Errorf("%x: %+v %d, not %d", x.s, r, e, x.e)
		}
	}
}
