// Package enc encodes integers and strings as bytes.
package enc

import (
	"sledge/api"
)

const (
	small     = 247 // the greatest integer that is its own encoding
	mostFirst = 254 // the greatest first byte of an encoding
	wordBytes = 8
)

// PutNum returns the encodings of integers, one after the other.
func PutNum(l ...int) string {
	var out []byte
	for _, n := range l {
		n = min(max(n, 0), api.MaxNum)
		if n <= small {
			out = append(out, byte(n))
			continue
		}
		w := width(n)
		out = append(out, byte(small+w))
		out = append(out, Fixed(n, w)...)
	}
	return string(out)
}

// width is the smallest number of bytes that holds n.
func width(n int) int {
	w := 1
	for n>>(8*w) > 0 {
		w++
	}
	return w
}

// TakeNum reads an integer from the beginning of s, and returns the rest too.
func TakeNum(s string) (int, string, api.Errno) {
	if s == "" || s[0] > mostFirst {
		return 0, "", api.ErrForm
	}
	first := int(s[0])
	if first <= small {
		return first, s[1:], api.OK
	}
	w := first - small
	if len(s) < 1+w {
		return 0, "", api.ErrForm
	}
	n := number(s[1 : 1+w])
	if n <= small || width(n) != w {
		return 0, "", api.ErrForm
	}
	return n, s[1+w:], api.OK
}

// number returns the integer in all bytes of s, the most significant first.
func number(s string) int {
	n, i := 0, 0
next:
	if i < len(s) {
		n = n<<8 | int(s[i])
		i++
		goto next
	}
	return n
}

// PutText returns the encoding of a string.
func PutText(s string) string {
	return PutNum(len(s)) + s
}

// TakeText reads a string of at most so many bytes from the beginning of s, and returns the rest too.
func TakeText(s string, most int) (string, string, api.Errno) {
	n, rest, e := TakeNum(s)
	if e != api.OK {
		return "", "", e
	}
	if n > most {
		return "", "", api.ErrFull
	}
	if n > len(rest) {
		return "", "", api.ErrForm
	}
	return rest[:n], rest[n:], api.OK
}

// Fixed returns the lowest bytes of n, the most significant first.
func Fixed(n, bytes int) string {
	bytes = min(max(bytes, 0), wordBytes)
	var word [wordBytes]byte
	for i := range word {
		word[wordBytes-1-i] = byte(n >> (8 * i))
	}
	return string(word[wordBytes-bytes:])
}

// Take returns the integer in the first bytes of s, and the rest.
func Take(s string, bytes int) (int, string, api.Errno) {
	if bytes < 1 || bytes > wordBytes {
		return 0, "", api.ErrArg
	}
	if len(s) < bytes {
		return 0, "", api.ErrForm
	}
	return number(s[:bytes]), s[bytes:], api.OK
}
