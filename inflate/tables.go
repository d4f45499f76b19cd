package inflate

import (
	"sledge/api"
	"sledge/huff"
)

const (
	litSyms  = 288
	distSyms = 32
	repeat   = 16 // the symbol that repeats the previous length
	fewZeros = 17
	zeros    = 18
)

// order is the one in which the lengths of the code for lengths are written.
var order = [lenSyms]int{16, 17, 18, 0, 8, 7, 9, 6, 10, 5, 11, 4, 12, 3, 13, 2, 14, 1, 15}

// fixed returns the tables of the fixed codes.
func fixed() (*huff.Table, *huff.Table, api.Errno) {
	lits, dists := make([]int, litSyms), make([]int, distSyms)
	for sym := range lits {
		switch {
		case sym < 144 || sym >= 280:
			lits[sym] = 8
		case sym < 256:
			lits[sym] = 9
		default:
			lits[sym] = 7
		}
	}
	for sym := range dists {
		dists[sym] = 5
	}
	return both(lits, dists)
}

func both(lits, dists []int) (*huff.Table, *huff.Table, api.Errno) {
	a, e := huff.New(lits)
	if e != api.OK {
		return nil, nil, api.ErrForm
	}
	b, e := huff.New(dists)
	if e != api.OK {
		return nil, nil, api.ErrForm
	}
	return a, b, api.OK
}

// tables reads the lengths of both codes.
func (d *decoder) tables() (*huff.Table, *huff.Table, api.Errno) {
	a, ok := d.r.Take(5)
	b, ok2 := d.r.Take(5)
	c, ok3 := d.r.Take(4)
	if !ok || !ok2 || !ok3 {
		return nil, nil, api.ErrForm
	}
	lits, dists, own := 257+a, 1+b, 4+c
	if lits > mostLits || dists > mostDist {
		return nil, nil, api.ErrForm
	}
	table, e := d.lengthTable(own)
	if e != api.OK {
		return nil, nil, e
	}
	all, e := d.lengths(lits+dists, table)
	if e != api.OK || all[end] == 0 {
		return nil, nil, api.ErrForm
	}
	return both(all[:lits], all[lits:])
}

// lengthTable reads the first n lengths of the code for lengths.
func (d *decoder) lengthTable(n int) (*huff.Table, api.Errno) {
	lengths := make([]int, lenSyms)
	for i := range n {
		l, ok := d.r.Take(3)
		if !ok {
			return nil, api.ErrForm
		}
		lengths[order[i]] = l
	}
	table, e := huff.New(lengths)
	if e != api.OK {
		return nil, api.ErrForm
	}
	return table, api.OK
}

// lengths reads n lengths.
func (d *decoder) lengths(n int, table *huff.Table) ([]int, api.Errno) {
	var all []int
	add := func(length, least, extra int) bool {
		more, ok := d.r.Take(extra)
		times := least + more
		if !ok || len(all)+times > n {
			return false
		}
		for range times {
			all = append(all, length)
		}
		return true
	}
	for len(all) < n {
		sym, e := table.Decode(d.r)
		if e != api.OK || sym == repeat && len(all) == 0 {
			return nil, api.ErrForm
		}
		ok := false
		switch sym {
		case repeat:
			ok = add(all[len(all)-1], 3, 2)
		case fewZeros:
			ok = add(0, 3, 3)
		case zeros:
			ok = add(0, 11, 7)
		default:
			ok = add(sym, 1, 0)
		}
		if !ok {
			return nil, api.ErrForm
		}
	}
	return all, api.OK
}
