package angles_test

import (
	"math"
	"math/big"
	"sync"

	"gouache/api"
)

const (
	one     = api.Fix(api.FixedOne)
	quarter = 90 * one
	most    = api.Fix(math.MaxInt32)
	least   = api.Fix(math.MinInt32)
)

// small: one, in small parts.
var small = new(big.Int).Lsh(big.NewInt(1), 62)

// tables: the document's own words for the C(i) and the S(i), reckoned by the library.
var tables = sync.OnceValues(func() (c, s []*big.Int) {
	c, s = []*big.Int{big.NewInt(0)}, []*big.Int{small}
	for i := range 40 {
		// Small parts of small parts: of these there is an even number.
		half := new(big.Int).Add(small, c[i])
		half.Mul(half, small)
		half.Rsh(half, 1)
		root := half.Sqrt(half)
		c = append(c, root)
		by := new(big.Int).Mul(s[i], small)
		s = append(s, by.Div(by, new(big.Int).Lsh(root, 1)))
	}
	return c, s
})

// floored: what two products are together, or less the second one, in small parts.
func floored(a, b, c, d *big.Int, less bool) *big.Int {
	first, second := new(big.Int).Mul(a, b), new(big.Int).Mul(c, d)
	if less {
		second.Neg(second)
	}
	first.Add(first, second)
	return first.Rsh(first, 62)
}

func turnedOn(x, y *big.Int, i int) (*big.Int, *big.Int) {
	c, s := tables()
	return floored(x, c[i], y, s[i], true), floored(y, c[i], x, s[i], false)
}

func turnedBack(x, y *big.Int, i int) (*big.Int, *big.Int) {
	c, s := tables()
	return floored(x, c[i], y, s[i], false), floored(y, c[i], x, s[i], true)
}

// nearest: of n by 2^places, the greatest whole number not above that and a half together.
func nearest(n *big.Int, places uint) int64 {
	half := new(big.Int).Lsh(big.NewInt(1), places)
	twice := new(big.Int).Lsh(n, 1)
	twice.Add(twice, half)
	return twice.Rsh(twice, places+1).Int64()
}

func wantCosSin(a api.Fix) (api.Fix, api.Fix) {
	q, r := int64(a)/int64(quarter), int64(a)%int64(quarter)
	if r < 0 {
		q, r = q-1, r+int64(quarter)
	}
	bits := new(big.Int).Lsh(big.NewInt(r), 40)
	bits.Div(bits, big.NewInt(int64(quarter)))
	x, y := small, big.NewInt(0)
	for i := 1; i <= 40; i++ {
		if bits.Bit(40-i) == 1 {
			x, y = turnedOn(x, y, i)
		}
	}
	c, s := api.Fix(nearest(x, 46)), api.Fix(nearest(y, 46))
	switch (q%4 + 4) % 4 {
	case 1:
		return -s, c
	case 2:
		return -c, -s
	case 3:
		return s, -c
	}
	return c, s
}

// inFirst: q, and the place in the first quarter, as the document has them.
func inFirst(y, x int64) (q, u, v int64) {
	if x > 0 && y >= 0 {
		return 0, x, y
	}
	if y > 0 && x <= 0 {
		return 1, y, -x
	}
	if x < 0 && y <= 0 {
		return 2, -x, -y
	}
	return 3, -y, x
}

func wantAtan(y, x api.Fix) (api.Fix, api.Errno) {
	if x == 0 && y == 0 {
		return 0, api.ErrZero
	}
	q, n, m := inFirst(int64(y), int64(x))
	for 2*max(n, m) < 1<<61 {
		n, m = 2*n, 2*m
	}
	u, v := big.NewInt(n), big.NewInt(m)
	number := big.NewInt(q)
	for i := 1; i <= 40; i++ {
		number.Lsh(number, 1)
		if r, s := turnedBack(u, v, i); s.Sign() >= 0 {
			u, v = r, s
			number.Add(number, big.NewInt(1))
		}
	}
	a := api.Fix(nearest(number.Mul(number, big.NewInt(int64(quarter))), 40))
	if a == 4*quarter {
		return 0, api.OK
	}
	return a, api.OK
}

// stir: a number from the one before it, the same in each run.
func stir(n uint64) uint64 {
	n ^= n << 13
	n ^= n >> 7
	return n ^ n<<17
}

// strewn: so many fixes of either sign and of all sizes, in no order.
func strewn(count int, seed uint64) []api.Fix {
	var out []api.Fix
	for range count {
		seed = stir(seed)
		out = append(out, api.Fix(seed>>32)>>(seed%32))
	}
	return out
}

// someFixes: 0, the ends, and those about the powers of two, of either sign.
func someFixes() []api.Fix {
	out := []api.Fix{0, least, least + 1, most, most - 1}
	for k := range 31 {
		for more := api.Fix(-1); more <= 1; more++ {
			out = append(out, 1<<k+more, -1<<k+more)
		}
	}
	return out
}
