package powers_test

import (
	"math"
	"math/big"
	"sync"

	"gouache/api"
)

const (
	one   = api.Fix(api.FixedOne)
	most  = api.Fix(math.MaxInt32)
	least = api.Fix(math.MinInt32)
)

// small: one, in small parts.
var small = new(big.Int).Lsh(big.NewInt(1), 62)

// table: the document's own words for the T(i), reckoned by the library.
var table = sync.OnceValue(func() []*big.Int {
	all := []*big.Int{new(big.Int).Lsh(small, 1)}
	for i := range 32 {
		ahead := new(big.Int).Mul(all[i], small)
		all = append(all, ahead.Sqrt(ahead))
	}
	return all
})

// times: the product, floored to small parts.
func times(a, b *big.Int) *big.Int {
	p := new(big.Int).Mul(a, b)
	return p.Rsh(p, 62)
}

// nearest: of n by 2^places, the greatest whole number not above that and a half together.
func nearest(n *big.Int, places uint) *big.Int {
	half := new(big.Int).Lsh(big.NewInt(1), places)
	twice := new(big.Int).Lsh(n, 1)
	twice.Add(twice, half)
	return twice.Rsh(twice, places+1)
}

// twoTo: 2 to the power of a number with 32 bits behind its point, nearest in 65536ths, not held.
func twoTo(e *big.Int) *big.Int {
	p := small
	for i := 1; i <= 32; i++ {
		// Bit tells a number below 0 as two's complement: so what is behind its floor.
		if e.Bit(32-i) == 1 {
			p = times(p, table()[i])
		}
	}
	whole := new(big.Int).Rsh(e, 32).Int64()
	if whole >= 46 {
		return new(big.Int).Lsh(p, uint(whole-46))
	}
	return nearest(p, uint(46-whole))
}

// longLog: of so many 65536ths, above 0, with 40 bits behind its point.
func longLog(x int64) *big.Int {
	whole := 0
	y := new(big.Int).Lsh(big.NewInt(x), 46)
	two := table()[0]
	for y.Cmp(two) >= 0 {
		// Never odd: there are 46 noughts behind what is a number of at most 32 bits.
		y.Rsh(y, 1)
		whole++
	}
	for y.Cmp(small) < 0 {
		y.Lsh(y, 1)
		whole--
	}
	log := big.NewInt(int64(whole))
	for range 40 {
		log.Lsh(log, 1)
		y = times(y, y)
		if y.Cmp(two) >= 0 {
			log.Add(log, big.NewInt(1))
			y.Rsh(y, 1)
		}
	}
	return log
}

func held(n *big.Int) api.Fix {
	if n.Cmp(big.NewInt(int64(most))) > 0 {
		return most
	}
	if n.Cmp(big.NewInt(int64(least))) < 0 {
		return least
	}
	return api.Fix(n.Int64())
}

// raised: so many 65536ths, above 0, to the power of n, nearest, not held.
func raised(a int64, n api.Fix) *big.Int {
	return twoTo(nearest(new(big.Int).Mul(big.NewInt(int64(n)), longLog(a)), 24))
}

func wantExp2(x api.Fix) api.Fix {
	return held(twoTo(new(big.Int).Lsh(big.NewInt(int64(x)), 16)))
}

func wantLog2(x api.Fix) (api.Fix, api.Errno) {
	if x <= 0 {
		return 0, api.ErrArg
	}
	return held(nearest(longLog(int64(x)), 24)), api.OK
}

func wantPow(a, n api.Fix) (api.Fix, api.Errno) {
	if n == 0 {
		return one, api.OK
	}
	if a == 0 {
		if n < 0 {
			return 0, api.ErrZero
		}
		return 0, api.OK
	}
	if a > 0 {
		return held(raised(int64(a), n)), api.OK
	}
	if n%one != 0 {
		return 0, api.ErrArg
	}
	p := raised(-int64(a), n)
	if n/one%2 != 0 {
		p.Neg(p)
	}
	return held(p), api.OK
}

// stir: a number from the one before it, the same in each run.
func stir(n uint64) uint64 {
	n ^= n << 13
	n ^= n >> 7
	return n ^ n<<17
}

// strewn: so many fixes of either sign and of all sizes, in no order.
func strewn(count int, seed uint64) []api.Fix {
	var out []api.Fix
	for range count {
		seed = stir(seed)
		out = append(out, api.Fix(seed>>32)>>(seed%32))
	}
	return out
}

// someFixes: 0, the ends, those about the powers of two and about the small whole numbers, of either sign.
func someFixes() []api.Fix {
	out := []api.Fix{0, least, least + 1, most, most - 1}
	for k := range 31 {
		for more := api.Fix(-1); more <= 1; more++ {
			out = append(out, 1<<k+more, -1<<k+more)
		}
	}
	for k := api.Fix(3); k <= 20; k++ {
		for more := api.Fix(-1); more <= 1; more++ {
			out = append(out, k*one+more, -k*one+more)
		}
	}
	return out
}
