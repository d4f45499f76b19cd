package stream

import (
	"sledge/api"
	"sledge/huff"
)

const (
	litSyms  = 288
	distSyms = 32
	lenSyms  = 19
	repeat   = 16 // the symbol that repeats the previous length
	fewZeros = 17
	zeros    = 18
)

// order is the one in which the lengths of the code for lengths are written.
var order = [lenSyms]int{16, 17, 18, 0, 8, 7, 9, 6, 10, 5, 11, 4, 12, 3, 13, 2, 14, 1, 15}

// fixed returns the tables of the fixed codes.
func fixed() (*huff.Table, *huff.Table, api.Errno) {
	lits, dists := make([]int, litSyms), make([]int, distSyms)
	for sym := range lits {
		switch {
		case sym < 144 || sym >= 280:
			lits[sym] = 8
		case sym < 256:
			lits[sym] = 9
		default:
			lits[sym] = 7
		}
	}
	for sym := range dists {
		dists[sym] = 5
	}
	return both(lits, dists)
}

func both(lits, dists []int) (*huff.Table, *huff.Table, api.Errno) {
	a, e := huff.New(lits)
	b, e2 := huff.New(dists)
	if e != api.OK || e2 != api.OK {
		return nil, nil, api.ErrForm
	}
	return a, b, api.OK
}

// tables reads the lengths of both codes.
func (a *attempt) tables() (*huff.Table, *huff.Table, api.Errno) {
	x, _ := a.take(5)
	y, _ := a.take(5)
	z, ok := a.take(4)
	lits, dists := 257+x, 1+y
	if !ok || lits > mostLits || dists > mostDist {
		return nil, nil, api.ErrForm
	}
	table, ok := a.lengthTable(4 + z)
	if !ok {
		return nil, nil, api.ErrForm
	}
	all, ok := a.lengths(lits+dists, table)
	if !ok || all[end] == 0 {
		return nil, nil, api.ErrForm
	}
	return both(all[:lits], all[lits:])
}

// lengthTable reads the first n lengths of the code for lengths.
func (a *attempt) lengthTable(n int) (*huff.Table, bool) {
	lengths := make([]int, lenSyms)
	for i := range n {
		l, ok := a.take(3)
		if !ok {
			return nil, false
		}
		lengths[order[i]] = l
	}
	table, e := huff.New(lengths)
	return table, e == api.OK
}

// lengths reads n lengths.
func (a *attempt) lengths(n int, table *huff.Table) ([]int, bool) {
	var all []int
	for len(all) < n {
		sym, ok := a.symbol(table)
		if !ok || sym == repeat && len(all) == 0 {
			return nil, false
		}
		length, times := sym, 1
		switch sym {
		case repeat:
			length = all[len(all)-1]
			times, ok = a.sized(3, 2)
		case fewZeros:
			length = 0
			times, ok = a.sized(3, 3)
		case zeros:
			length = 0
			times, ok = a.sized(11, 7)
		}
		if !ok || len(all)+times > n {
			return nil, false
		}
		for range times {
			all = append(all, length)
		}
	}
	return all, true
}
