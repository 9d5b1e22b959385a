package roots

import (
	"cmp"
	"math/bits"

	"gouache/api"
	"gouache/wides"
)

// kind of numbers that roots are sought of: how many bits a root of one has at most, and how one is squared and held against another.
type kind[N any] struct {
	places  int
	square  func(root uint64) (N, api.Errno)
	compare func(a, b N) int
}

func plain() kind[uint64] {
	return kind[uint64]{places: 32, square: squarePlain, compare: cmp.Compare[uint64]}
}

func wide() kind[api.Wide] {
	return kind[api.Wide]{places: 64, square: squareWide, compare: wides.Cmp}
}

// sought: the root of a number that is not below 0, from the highest bit down.
func sought[N any](n N, k kind[N]) uint64 {
	var root uint64
	for i := range k.places {
		more := root | 1<<(k.places-1-i)
		square, e := k.square(more)
		// A square that is over is above every number of the kind.
		if e == api.OK && k.compare(square, n) <= 0 {
			root = more
		}
	}
	return root
}

// squarePlain: of a root of 32 bits, whose square is never over.
func squarePlain(root uint64) (uint64, api.Errno) { return root * root, api.OK }

// squareWide: ErrOver, if the square is no wide.
func squareWide(root uint64) (api.Wide, api.Errno) {
	hi, lo := bits.Mul64(root, root)
	if hi>>63 != 0 {
		return api.Wide{}, api.ErrOver
	}
	return api.Wide{Hi: int64(hi), Lo: lo}, api.OK
}
