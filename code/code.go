// Package code: numbers and texts as bytes: see doc/01-code.md.
package code

import (
	"iter"

	"lade/api"
)

const (
	another = 128 // the bit that tells that one more byte comes
	longest = 9   // bytes of a number: seven bits each hold all that an int has
	fixed   = 4   // bytes of a number that has always as many
)

// Put tells n, seven bits a byte, the lowest first.
func Put(n int) string {
	var b []byte
	for c := range sevens(max(n, 0)) {
		b = append(b, c)
	}
	return string(b)
}

// Get tells the number at the beginning of s, and of how many bytes it is.
func Get(s string) (int, int, api.Errno) {
	n := 0
	for i, c := range front(s, longest) {
		last := c < another
		if last && c == 0 && i > 0 || !last && i == longest-1 {
			return 0, 0, api.ErrForm
		}
		n |= int(c%another) << (7 * i)
		if last {
			return n, i + 1, api.OK
		}
	}
	return 0, 0, api.ErrShort
}

// Text tells s behind the number of its bytes.
func Text(s string) string { return Put(len(s)) + s }

// Texts tells the text at the beginning of s, and how many bytes it takes with its number.
func Texts(s string, most int) (string, int, api.Errno) {
	n, k, e := Get(s)
	switch {
	case e != api.OK:
		return "", 0, e
	case n > max(most, 0):
		return "", 0, api.ErrLarge
	case n > len(s)-k:
		return "", 0, api.ErrShort
	}
	return s[k : k+n], k + n, api.OK
}

// Fixed tells n in four bytes, the lowest first.
func Fixed(n uint32) string {
	var b []byte
	for c := range eights(n) {
		b = append(b, c)
	}
	return string(b)
}

// Fix tells the number of the first four bytes of s.
func Fix(s string) (uint32, api.Errno) {
	if len(s) < fixed {
		return 0, api.ErrShort
	}
	n := uint32(0)
	for i, c := range front(s, fixed) {
		n |= uint32(c) << (8 * i)
	}
	return n, api.OK
}

// sevens yields the bytes that Put tells n by.
func sevens(n int) iter.Seq[byte] {
	return func(yield func(byte) bool) {
		left := n
		for ; left >= another; left /= another {
			if !yield(byte(left%another + another)) {
				return
			}
		}
		yield(byte(left))
	}
}

// eights yields the four bytes of n.
func eights(n uint32) iter.Seq[byte] {
	return func(yield func(byte) bool) {
		for i := range fixed {
			if !yield(byte(n >> (8 * i))) {
				return
			}
		}
	}
}

// front yields the first bytes of s, at most most of them, each with where it stands.
func front(s string, most int) iter.Seq2[int, byte] {
	return func(yield func(int, byte) bool) {
		for i := range min(len(s), most) {
			if !yield(i, s[i]) {
				return
			}
		}
	}
}
