// Package letters is layer 1: words as runes, and how runes are written as bytes (see shared/doc/01-letters.md).
package letters

import "abecedary/api"

const (
	mostBytes = 4
	pastRunes = 1114112

	// The numbers between are no runes, although three bytes could hold them.
	firstGap = 55296
	lastGap  = 57343

	// A byte that goes on with a writing is tail and six bits more.
	tail     = 128
	tailSize = 64
)

// least has, at n, the least rune that is written with n bytes: what is below it has a shorter writing, so no other one is taken.
var least = [...]rune{0, 0, 128, 2048, 65536}

// lead has, at n, what the first of n bytes is counted from.
var lead = [...]byte{0, 0, 192, 224, 240}

// Runes are those of which s is the writing; false if it is none's.
func Runes(s string) ([]rune, bool) {
	var l []rune
	for len(s) > 0 {
		r, n := readRune(s)
		if n == 0 {
			return nil, false
		}
		l = append(l, r)
		s = s[n:]
	}
	return l, true
}

// Text is the writing of all of l; false if one of them is no rune.
func Text(l []rune) (string, bool) {
	b := make([]byte, 0, len(l))
	for _, r := range l {
		if !isRune(r) {
			return "", false
		}
		b = appendRune(b, r)
	}
	return string(b), true
}

// Word tells whether s is the writing of 1 to MaxRunes runes that can be seen.
func Word(s string) bool {
	count := 0
	for len(s) > 0 {
		r, n := readRune(s)
		if n == 0 || !inWord(r) || count == api.MaxRunes {
			return false
		}
		count++
		s = s[n:]
	}
	return count > 0
}

// Less tells whether a is ahead of b, byte by byte.
func Less(a, b string) bool {
	return a < b
}

// Common is with how many runes both begin alike; 0 if one of both is no writing.
func Common(a, b string) int {
	// What stands behind the first difference counts too: it may be no writing.
	x, good := Runes(a)
	y, fine := Runes(b)
	if !good || !fine {
		return 0
	}
	n := 0
	for n < len(x) && n < len(y) && x[n] == y[n] {
		n++
	}
	return n
}

func isRune(r rune) bool {
	return r >= 0 && r < pastRunes && (r < firstGap || r > lastGap)
}

func inWord(r rune) bool {
	return r > 32 && r != 127
}

// size is how many bytes the rune r is written with.
func size(r rune) int {
	n := 1
	for n < mostBytes && r >= least[n+1] {
		n++
	}
	return n
}

// appendRune lays the writing of the rune r behind b.
func appendRune(b []byte, r rune) []byte {
	var w [mostBytes]byte
	n := size(r)
	for i := n - 1; i > 0; i-- {
		w[i] = tail + byte(r%tailSize)
		r /= tailSize
	}
	w[0] = lead[n] + byte(r)
	return append(b, w[:n]...)
}

// leadSize is how many bytes the writing has that begins with b; 0 if none does.
func leadSize(b byte) int {
	switch {
	case b < 128:
		return 1
	case b < 192:
		return 0
	case b < 224:
		return 2
	case b < 240:
		return 3
	case b < 248:
		return 4
	}
	return 0
}

// readRune is the rune with whose writing s (not empty) begins, and its bytes; 0 bytes if there is none.
func readRune(s string) (rune, int) {
	n := leadSize(s[0])
	if n == 0 || n > len(s) {
		return 0, 0
	}
	r := rune(s[0] - lead[n])
	for i := 1; i < n; i++ {
		if s[i] < tail || s[i] >= tail+tailSize {
			return 0, 0
		}
		r = r*tailSize + rune(s[i]-tail)
	}
	if r < least[n] || !isRune(r) {
		return 0, 0
	}
	return r, n
}
