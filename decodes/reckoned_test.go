package decodes_test

import (
	"math"
	"math/big"
	"testing"

	"gouache/api"
	"gouache/decodes"
)

const (
	least = api.Fix(math.MinInt32)
	most  = api.Fix(math.MaxInt32)
)

var (
	leastWide = api.Wide{Hi: math.MinInt64}
	mostWide  = api.Wide{Hi: math.MaxInt64, Lo: math.MaxUint64}
)

func to(lo, hi api.Fix) api.Range { return api.Range{Lo: lo, Hi: hi} }

func whole(n int64) *big.Rat { return new(big.Rat).SetInt64(n) }

// greatest: 2 to the power of the bits, less 1, written without a shift.
func greatest(bits int) int64 {
	g := int64(0)
	for range bits {
		g = 2*g + 1
	}
	return g
}

func bigOf(a api.Wide) *big.Int {
	n := new(big.Int).Lsh(big.NewInt(a.Hi), 64)
	return n.Add(n, new(big.Int).SetUint64(a.Lo))
}

// near: the greatest whole number not above x and a half together.
func near(x *big.Rat) *big.Int {
	y := new(big.Rat).Add(x, big.NewRat(1, 2))
	// Div is Euclid's, and a Rat's denominator is above 0: so it is floored.
	return new(big.Int).Div(y.Num(), y.Denom())
}

func between(n, lo, hi *big.Int) *big.Int {
	if n.Cmp(lo) < 0 {
		return lo
	}
	if n.Cmp(hi) > 0 {
		return hi
	}
	return n
}

// wantValue: P7.1, reckoned by the library: N alone, as D is the greatest number.
func wantValue(raw uint32, bits int, r api.Range) *big.Int {
	wide := new(big.Int).Sub(big.NewInt(int64(r.Hi)), big.NewInt(int64(r.Lo)))
	wide.Mul(wide, big.NewInt(int64(raw)))
	low := new(big.Int).Mul(big.NewInt(int64(r.Lo)), big.NewInt(greatest(bits)))
	return low.Add(low, wide)
}

// wantRaw: P7.2, reckoned by the library, of a range with a width.
func wantRaw(v api.Fix, bits int, r api.Range) *big.Int {
	x := new(big.Rat).Sub(whole(int64(v)), whole(int64(r.Lo)))
	x.Mul(x, whole(greatest(bits)))
	x.Quo(x, new(big.Rat).Sub(whole(int64(r.Hi)), whole(int64(r.Lo))))
	return between(near(x), big.NewInt(0), big.NewInt(greatest(bits)))
}

// wantNear: P7.3, reckoned by the library.
func wantNear(q api.Ratio) *big.Int {
	if q.D < 1 {
		return big.NewInt(0)
	}
	x := new(big.Rat).SetFrac(bigOf(q.N), big.NewInt(q.D))
	return between(near(x), big.NewInt(int64(least)), big.NewInt(int64(most)))
}

func checkValue(t *testing.T, raw uint32, bits int, r api.Range) {
	t.Helper()
	q, e := decodes.Value(raw, bits, r)
	if want := wantValue(raw, bits, r); bigOf(q.N).Cmp(want) != 0 || q.D != greatest(bits) || e != api.OK {
		t.Errorf("Value(%d, %d, %v): %v by %d, %v, not %v", raw, bits, r, bigOf(q.N), q.D, e, want)
	}
}

func checkRaw(t *testing.T, v api.Fix, bits int, r api.Range) {
	t.Helper()
	raw, e := decodes.Raw(v, bits, r)
	if r.Lo == r.Hi {
		if raw != 0 || e != api.ErrZero {
			t.Errorf("Raw(%d, %d, %v): %d, %v, not ErrZero", v, bits, r, raw, e)
		}
		return
	}
	if want := wantRaw(v, bits, r); want.Cmp(big.NewInt(int64(raw))) != 0 || e != api.OK {
		t.Errorf("Raw(%d, %d, %v): %d, %v, not %v", v, bits, r, raw, e, want)
	}
}

func checkNear(t *testing.T, q api.Ratio) {
	t.Helper()
	got := decodes.Near(q)
	if want := wantNear(q); want.Cmp(big.NewInt(int64(got))) != 0 {
		t.Errorf("Near(%v by %d): %d, not %v", bigOf(q.N), q.D, got, want)
	}
}

// stir: a number from the one before it, the same in each run.
func stir(n uint64) uint64 {
	n ^= n << 13
	n ^= n >> 7
	return n ^ n<<17
}

// someRaws: the least, the middle and the greatest numbers of so many bits, and some in no order.
func someRaws(bits int) []uint32 {
	g := greatest(bits)
	var out []uint32
	for _, n := range []int64{0, 1, 2, g / 3, g/2 - 1, g / 2, g/2 + 1, g - 2, g - 1, g} {
		if n >= 0 && n <= g {
			out = append(out, uint32(n))
		}
	}
	n := uint64(88172645463325252)
	for range 10 {
		n = stir(n)
		out = append(out, uint32(n>>32)&uint32(g))
	}
	return out
}

// someFixes: about nought, the ones and the ends, and some in no order.
func someFixes() []api.Fix {
	var out []api.Fix
	for _, at := range []api.Fix{0, 32768, 65536, -65536, 255 * 65536} {
		out = append(out, at-1, at, at+1)
	}
	out = append(out, least, least+1, least+2, most-2, most-1, most)
	n := uint64(362436069)
	for i := range 10 {
		n = stir(n)
		out = append(out, api.Fix(int32(n>>20)>>(i%24)))
	}
	return out
}

// someRanges: all pairs of some fixes: they rise, fall, have no width, or have all that there is.
func someRanges() []api.Range {
	var out []api.Range
	for _, lo := range someFixes() {
		for _, hi := range someFixes() {
			out = append(out, to(lo, hi))
		}
	}
	return out
}
