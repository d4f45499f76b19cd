package stream

import (
	"sledge/api"
	"sledge/bits"
	"sledge/huff"
)

// The kinds of blocks.
const (
	stored = 0
	simple = 1
	rich   = 2
)

const (
	mostWord = 65535
	end      = 256
	mostLits = 286
	mostDist = 30
)

// attempt is what becomes of a reader if a part has arrived completely. It appends to the output only at the part's end.
type attempt struct {
	place
	bits  *bits.Reader
	out   []byte
	so    int // bytes of output so far
	room  int // bytes of output that are still allowed
	ended bool
	short bool // the part has not arrived completely
	wants int  // how many bytes of input there must be for it, if that is known
}

// take reads n bits.
func (a *attempt) take(n int) (int, bool) {
	v, ok := a.bits.Take(n)
	a.short = a.short || !ok
	return v, ok
}

// symbol reads a symbol. Fewer bits than the longest code are no fault, since more may follow.
func (a *attempt) symbol(t *huff.Table) (int, bool) {
	enough := a.bits.Left() >= huff.MaxLen
	sym, e := t.Decode(a.bits)
	a.short = a.short || e != api.OK && !enough
	return sym, e == api.OK
}

// part reads the next part: a token, or the beginning of a block, for a stored block all of it.
func (a *attempt) part() api.Errno {
	if a.lits != nil {
		return a.token()
	}
	final, _ := a.take(1)
	kind, ok := a.take(2)
	a.last = final == 1
	e := api.ErrForm
	switch {
	case !ok:
	case kind == stored:
		return a.copied()
	case kind == simple:
		a.lits, a.dists, e = fixed()
	case kind == rich:
		a.lits, a.dists, e = a.tables()
	}
	return e
}

// finish ends a block.
func (a *attempt) finish() {
	a.ended = a.last
	a.place = place{}
}

// copied reads a stored block.
func (a *attempt) copied() api.Errno {
	a.bits.Align()
	n, _ := a.take(16)
	turned, ok := a.take(16)
	if !ok || turned != n^mostWord {
		return api.ErrForm
	}
	a.wants = a.bits.Used()/byteBits + n
	s, ok := a.bits.Text(n)
	if !ok {
		a.short = true
		return api.ErrForm
	}
	if n > a.room {
		return api.ErrLimit
	}
	a.out = append(a.out, s...)
	a.finish()
	return api.OK
}

// token reads a byte, a match, or the end of the block.
func (a *attempt) token() api.Errno {
	sym, ok := a.symbol(a.lits)
	switch {
	case !ok:
		return api.ErrForm
	case sym == end:
		a.finish()
		return api.OK
	case sym > end:
		return a.match(sym)
	case a.room < 1:
		return api.ErrLimit
	}
	a.out = append(a.out, byte(sym))
	return api.OK
}

// match reads what follows the symbol of a length, and repeats that many bytes.
func (a *attempt) match(sym int) api.Errno {
	if sym >= mostLits {
		return api.ErrForm
	}
	n, ok := a.sized(length(sym))
	if !ok {
		return api.ErrForm
	}
	sym, ok = a.symbol(a.dists)
	if !ok || sym >= mostDist {
		return api.ErrForm
	}
	dist, ok := a.sized(distance(sym))
	if !ok || dist > a.so {
		return api.ErrForm
	}
	if n > a.room {
		return api.ErrLimit
	}
	for range n {
		a.out = append(a.out, a.out[len(a.out)-dist])
	}
	return api.OK
}

// sized reads extra bits, and adds them to the first integer of a symbol.
func (a *attempt) sized(first, extra int) (int, bool) {
	more, ok := a.take(extra)
	return first + more, ok
}

// length returns the first length of a symbol, and the number of its extra bits.
func length(sym int) (int, int) {
	if sym == mostLits-1 {
		return 258, 0
	}
	first, extra := graded(sym-end-1, 2)
	return 3 + first, extra
}

// distance returns the first distance of a symbol, and the number of its extra bits.
func distance(sym int) (int, int) {
	first, extra := graded(sym, 1)
	return 1 + first, extra
}

// graded returns the first integer of a class, and the number of its extra bits, of which each number has 2^step classes.
func graded(class, step int) (int, int) {
	extra := max(class>>step-1, 0)
	return (class - extra<<step) << extra, extra
}
