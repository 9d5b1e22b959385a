package wides

import (
	"math/bits"

	"gouache/api"
)

// words of a number of 128 bits, the low one first: so carries run upwards with the index.
type words [2]uint64

// signed is a number with its sign taken off: products and quotients are those of the words alone.
type signed struct {
	neg bool
	mag words
}

func wordsOf(a api.Wide) words { return words{a.Lo, uint64(a.Hi)} }

func wideOf(m words) api.Wide { return api.Wide{Hi: int64(m[1]), Lo: m[0]} }

func takeSign(a api.Wide) signed {
	if a.Hi < 0 {
		return signed{neg: true, mag: difference(words{}, wordsOf(a))}
	}
	return signed{mag: wordsOf(a)}
}

func putSign(s signed) (api.Wide, api.Errno) {
	// Of all numbers of 2^127 and more only the least wide is one.
	least := signed{neg: true, mag: words{0, 1 << 63}}
	if s.mag[1]>>63 != 0 && s != least {
		return api.Wide{}, api.ErrOver
	}
	if s.neg {
		return wideOf(difference(words{}, s.mag)), api.OK
	}
	return wideOf(s.mag), api.OK
}

// sum of the words, modulo 2^128: whoever calls it knows whether that shows.
func sum(a, b words) (s words) {
	var carry uint64
	for i := range s {
		s[i], carry = bits.Add64(a[i], b[i], carry)
	}
	return s
}

// difference of the words, modulo 2^128.
func difference(a, b words) (d words) {
	var borrow uint64
	for i := range d {
		d[i], borrow = bits.Sub64(a[i], b[i], borrow)
	}
	return d
}

// product of the words, and what goes beyond 128 bits of it.
func product(m words, n uint64) (p words, over uint64) {
	for i := range p {
		var carry uint64
		hi, lo := bits.Mul64(m[i], n)
		p[i], carry = bits.Add64(lo, over, 0)
		// hi is at most 2^64 - 2: a carry never wraps it.
		over = hi + carry
	}
	return p, over
}

// quotient of the words, and what is left; d is above 0.
func quotient(m words, d uint64) (q words, left uint64) {
	for i := len(m) - 1; i >= 0; i-- {
		q[i], left = bits.Div64(left, m[i], d)
	}
	return q, left
}
