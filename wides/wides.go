// Package wides is layer 1: whole numbers of 128 bits. See doc/01-wides.md.
package wides

import (
	"cmp"

	"gouache/api"
)

// Of: a number. (P1.1)
func Of(n int64) api.Wide {
	if n < 0 {
		return api.Wide{Hi: -1, Lo: uint64(n)}
	}
	return api.Wide{Lo: uint64(n)}
}

// Cmp: below 0, 0, above 0. (P1.1)
func Cmp(a, b api.Wide) int {
	if a.Hi != b.Hi {
		return cmp.Compare(a.Hi, b.Hi)
	}
	return cmp.Compare(a.Lo, b.Lo)
}

// Add, Sub, Mul, Times: sums, differences, products. (P1.2)
func Add(a, b api.Wide) (api.Wide, api.Errno) {
	s := wideOf(sum(wordsOf(a), wordsOf(b)))
	// Numbers of unlike signs can't lead out of the range.
	if below(a) == below(b) && below(s) != below(a) {
		return api.Wide{}, api.ErrOver
	}
	return s, api.OK
}

// Sub: likewise.
func Sub(a, b api.Wide) (api.Wide, api.Errno) {
	d := wideOf(difference(wordsOf(a), wordsOf(b)))
	// Numbers of like signs can't lead out of the range.
	if below(a) != below(b) && below(d) != below(a) {
		return api.Wide{}, api.ErrOver
	}
	return d, api.OK
}

// Mul: likewise.
func Mul(a, b int64) api.Wide {
	// At most 2^126, so there is no error to tell.
	p, _ := Times(Of(a), b)
	return p
}

// Times: likewise.
func Times(a api.Wide, n int64) (api.Wide, api.Errno) {
	s, by := takeSign(a), takeSign(Of(n))
	p, over := product(s.mag, by.mag[0])
	if over != 0 {
		return api.Wide{}, api.ErrOver
	}
	return putSign(signed{neg: s.neg != by.neg, mag: p})
}

// Floor: how often, and what is left; Near: the nearest. (P1.3)
func Floor(a api.Wide, d int64) (q api.Wide, r int64, e api.Errno) {
	if d < 1 {
		return api.Wide{}, 0, api.ErrArg
	}
	s := takeSign(a)
	m, left := quotient(s.mag, uint64(d))
	if s.neg && left != 0 {
		// Without its sign the number was cut towards 0; floored it lies one further below.
		m, left = sum(m, words{1}), uint64(d)-left
	}
	q, e = putSign(signed{neg: s.neg, mag: m})
	return q, int64(left), e
}

// Near: likewise.
func Near(a api.Wide, d int64) (api.Wide, api.Errno) {
	q, r, e := Floor(a, d)
	if e != api.OK {
		return api.Wide{}, e
	}
	// Not twice r against d: that could wrap.
	if r >= d-r {
		return Add(q, Of(1))
	}
	return q, api.OK
}

// Int: as one of 64 bits; false: it is none. (P1.1)
func Int(a api.Wide) (int64, bool) {
	n := int64(a.Lo)
	if Of(n) != a {
		return 0, false
	}
	return n, true
}

func below(a api.Wide) bool { return a.Hi < 0 }
