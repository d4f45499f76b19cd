package index

import (
	"sledge/api"
	"sledge/enc"
	"sledge/path"
)

// shared is the number of bytes that two paths have in common at their beginning.
func shared(a, b string) int {
	n := 0
	for n < len(a) && n < len(b) && a[n] == b[n] {
		n++
	}
	return n
}

// Put returns the encoding of an index.
func (x Index) Put() string {
	out := []byte(enc.PutNum(len(x.items)))
	before := ""
	for _, y := range x.items {
		n := shared(before, y.Path)
		out = append(out, enc.PutNum(n)...)
		out = append(out, enc.PutText(y.Path[n:])...)
		out = append(out, enc.PutNum(y.ID, y.Size)...)
		out = append(out, y.Sum...)
		before = y.Path
	}
	return string(out)
}

// Take returns the index with the encoding s.
func Take(s string) (Index, api.Errno) {
	n, rest, e := enc.TakeNum(s)
	if e != api.OK {
		return Index{}, e
	}
	if n > Most {
		return Index{}, api.ErrFull
	}
	var x Index
	before := ""
	for range n {
		var y api.Item
		if y, rest, e = takeItem(before, rest); e != api.OK {
			return Index{}, e
		}
		x.items = append(x.items, y)
		before = y.Path
	}
	if x.Put() != s {
		return Index{}, api.ErrForm
	}
	return x, api.OK
}

// takeItem reads a file from the beginning of s, where the previous path is known, and returns the rest too.
func takeItem(before, s string) (api.Item, string, api.Errno) {
	n, s, e := enc.TakeNum(s)
	if e != api.OK {
		return api.Item{}, "", e
	}
	more, s, e := enc.TakeText(s, api.MaxPath)
	if e != api.OK {
		return api.Item{}, "", e
	}
	id, s, e := enc.TakeNum(s)
	if e != api.OK {
		return api.Item{}, "", e
	}
	size, s, e := enc.TakeNum(s)
	if e != api.OK {
		return api.Item{}, "", e
	}
	if len(s) < api.TagBytes || n > len(before) {
		return api.Item{}, "", api.ErrForm
	}
	y := api.Item{Path: before[:n] + more, ID: id, Size: size, Sum: s[:api.TagBytes]}
	if path.Check(y.Path) != api.OK || path.Compare(before, y.Path) >= 0 || !validID(id) {
		return api.Item{}, "", api.ErrForm
	}
	return y, s[api.TagBytes:], api.OK
}
