// Package wrap is layer 1: arithmetic on 16-bit words with wraparound (shared/doc/01-wrap.md).
package wrap

// Size is the number of words.
const Size = 65536

const digits = "0123456789abcdef"

// places is the number of hexadecimal digits of a word.
const places = 4

// topLog is the greatest exponent of a power of two that an int holds.
const topLog = 62

// Word returns the word of n.
func Word(n int) int {
	// A remainder would be negative for a negative n; the low bits are those of the congruent word.
	return n & (Size - 1)
}

// Add returns the word of the sum of the words of a and b.
func Add(a, b int) int { return Word(Word(a) + Word(b)) }

// Sub returns the word of the difference of the words of a and b.
func Sub(a, b int) int { return Word(Word(a) - Word(b)) }

// Ahead returns how far the word of b is ahead of that of a, from -Size/2 to Size/2 - 1.
func Ahead(a, b int) int {
	d := Sub(b, a)
	if d >= Size/2 {
		return d - Size
	}
	return d
}

// In reports whether the word of x is one of the n words that start with the word of from.
func In(from, n, x int) bool {
	// The distance is in 0 to Size - 1, so an n below 1 or of at least Size needs no case of its own.
	return Sub(x, from) < n
}

// Hex returns the word of n as four hexadecimal digits in lower case.
func Hex(n int) string {
	w := Word(n)
	var text [places]byte
	for i := range text {
		text[places-1-i] = digits[w%16]
		w /= 16
	}
	return string(text[:])
}

// Read returns the word that Hex writes as s and true, or 0 and false if there is none.
func Read(s string) (int, bool) {
	if len(s) != places {
		return 0, false
	}
	w := 0
	for _, r := range s {
		d, ok := digit(r)
		if !ok {
			return 0, false
		}
		w = w*16 + d
	}
	return w, true
}

// digit returns the value of a hexadecimal digit in lower case and true, or 0 and false.
func digit(r rune) (int, bool) {
	switch {
	case '0' <= r && r <= '9':
		return int(r - '0'), true
	case 'a' <= r && r <= 'f':
		return int(r-'a') + 10, true
	}
	return 0, false
}

// Log returns the number l with 2^l = n and true, or 0 and false if there is none.
func Log(n int) (int, bool) {
	for l := range topLog + 1 {
		if n == 1<<l {
			return l, true
		}
	}
	return 0, false
}
