package flate

import (
	"sledge/bits"
	"sledge/huff"
)

const (
	repeat   = 16 // the symbol that repeats the previous length
	fewZeros = 17
	zeros    = 18
	lenSyms  = 19
	lenLimit = 7
)

// order is the one in which the lengths of the code for lengths are written.
var order = [lenSyms]int{16, 17, 18, 0, 8, 7, 9, 6, 10, 5, 11, 4, 12, 3, 13, 2, 14, 1, 15}

// part is a symbol of the code for lengths, with the value of its extra bits.
type part struct {
	sym, extra, value int
}

// putLengths writes the lengths of both codes.
func putLengths(w *bits.Writer, lits, dists []int) {
	all := append(append([]int{}, lits...), dists...)
	l := parts(all)
	freq := make([]int, lenSyms)
	for _, p := range l {
		freq[p.sym]++
	}
	own, _ := huff.Lengths(freq, lenLimit)
	n := lenSyms
	for n > 4 && own[order[n-1]] == 0 {
		n--
	}
	w.Put(len(lits)-firstLen, 5)
	w.Put(len(dists)-1, 5)
	w.Put(n-4, 4)
	for i := range n {
		w.Put(own[order[i]], 3)
	}
	c := newCoding(own)
	for _, p := range l {
		c.put(w, p.sym)
		w.Put(p.value, p.extra)
	}
}

// parts divides lengths into runs.
func parts(l []int) []part {
	var out []part
	for len(l) > 0 {
		n := 1
		for n < len(l) && l[n] == l[0] {
			n++
		}
		if l[0] == 0 {
			out = append(out, zeroParts(n)...)
		} else {
			out = append(out, repeatParts(l[0], n)...)
		}
		l = l[n:]
	}
	return out
}

// zeroParts stand for n zeros.
func zeroParts(n int) []part {
	var out []part
	for n > 0 {
		run := min(n, 138)
		switch {
		case run >= 11:
			out = append(out, part{zeros, 7, run - 11})
		case run >= 3:
			out = append(out, part{fewZeros, 3, run - 3})
		default:
			run = 1
			out = append(out, part{0, 0, 0})
		}
		n -= run
	}
	return out
}

// repeatParts stand for the same length n times.
func repeatParts(length, n int) []part {
	out := []part{{length, 0, 0}}
	n--
	for n > 0 {
		run := min(n, 6)
		if run >= 3 {
			out = append(out, part{repeat, 2, run - 3})
		} else {
			run = 1
			out = append(out, part{length, 0, 0})
		}
		n -= run
	}
	return out
}
