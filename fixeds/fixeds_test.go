package fixeds_test

import (
	"math"
	"math/big"
	"testing"

	"gouache/api"
	"gouache/fixeds"
)

const (
	one   = api.Fix(65536)
	half  = one / 2
	least = api.Fix(math.MinInt32)
	most  = api.Fix(math.MaxInt32)
)

// stir: a number from the one before it, the same in each run.
func stir(n uint64) uint64 {
	n ^= n << 13
	n ^= n >> 7
	return n ^ n<<17
}

// someFixes: about the whole ones, the halves, the ends, and some in no order.
func someFixes() []api.Fix {
	out := []api.Fix{least, least + 1, least + 2, most - 2, most - 1, most}
	for _, at := range []api.Fix{0, half, one, 3 * half, 2 * one, 3 * one, 32767 * one, 32767*one + half} {
		for more := api.Fix(-2); more <= 2; more++ {
			out = append(out, at+more, -at+more)
		}
	}
	n := uint64(88172645463325252)
	for i := range 40 {
		n = stir(n)
		out = append(out, api.Fix(int32(n)>>(i%32)))
	}
	return out
}

// someInts: about the powers of two of 64 bits, and some in no order.
func someInts() []int64 {
	out := []int64{math.MinInt64, math.MinInt64 + 1, math.MinInt64 + 2, math.MaxInt64 - 1, math.MaxInt64}
	for _, k := range []uint{0, 1, 2, 3, 14, 15, 16, 17, 30, 31, 32, 46, 47, 48, 61, 62} {
		for more := int64(-2); more <= 2; more++ {
			out = append(out, 1<<k+more, -1<<k+more)
		}
	}
	n := uint64(362436069)
	for i := range 60 {
		n = stir(n)
		out = append(out, int64(n)>>(i%64))
	}
	return out
}

func whole(n int64) *big.Rat { return new(big.Rat).SetInt64(n) }

// floored: the greatest whole number not above.
func floored(x *big.Rat) *big.Int {
	// Div is Euclid's, and a Rat's denominator is above 0: so it is floored.
	return new(big.Int).Div(x.Num(), x.Denom())
}

// near: the greatest whole number not above x and a half together.
func near(x *big.Rat) *big.Int { return floored(new(big.Rat).Add(x, big.NewRat(1, 2))) }

// held: the document's own words, reckoned by the library.
func held(n *big.Int) api.Fix {
	if n.Cmp(big.NewInt(int64(least))) < 0 {
		return least
	}
	if n.Cmp(big.NewInt(int64(most))) > 0 {
		return most
	}
	return api.Fix(n.Int64())
}

// check: an answer against the number of 65536ths that it should be, ahead of the rounding.
func check(t *testing.T, got api.Fix, e api.Errno, want *big.Rat, call string, of ...any) {
	t.Helper()
	if w := held(near(want)); got != w || e != api.OK {
		t.Errorf("%s%v: %d, %v, not %d", call, of, got, e, w)
	}
}

// checkZero: nothing but ErrZero is answered.
func checkZero(t *testing.T, got api.Fix, e api.Errno, call string, of ...any) {
	t.Helper()
	if got != 0 || e != api.ErrZero {
		t.Errorf("%s%v: %d, %v, not ErrZero", call, of, got, e)
	}
}

// P2.1: Sat.
func TestSat(t *testing.T) {
	for _, n := range someInts() {
		check(t, fixeds.Sat(n), api.OK, whole(n), "Sat", n)
	}
	for _, a := range someFixes() {
		if got := fixeds.Sat(int64(a)); got != a {
			t.Errorf("Sat(%d): %d", a, got)
		}
	}
}

// P2.1: Sat at the ends of what a Fix can have.
func TestSatAtItsEnds(t *testing.T) {
	for _, c := range []struct {
		n    int64
		want api.Fix
	}{
		{1<<31 - 2, most - 1},
		{1<<31 - 1, most},
		{1 << 31, most},
		{1 << 32, most},
		{math.MaxInt64, most},
		{-1<<31 + 1, least + 1},
		{-1 << 31, least},
		{-1<<31 - 1, least},
		{-1 << 32, least},
		{math.MinInt64, least},
	} {
		if got := fixeds.Sat(c.n); got != c.want {
			t.Errorf("Sat(%d): %d, not %d", c.n, got, c.want)
		}
	}
}

// P2.1: Of; times 65536 many of them are none of 64 bits.
func TestOf(t *testing.T) {
	for _, n := range someInts() {
		want := new(big.Rat).Mul(whole(n), whole(65536))
		check(t, fixeds.Of(int(n)), api.OK, want, "Of", n)
	}
	for _, c := range []struct {
		n    int
		want api.Fix
	}{
		{0, 0}, {1, one}, {-1, -one}, {32767, 32767 * one}, {32768, most}, {-32767, -32767 * one}, {-32768, least}, {-32769, least},
		{1 << 48, most}, {-1 << 48, least}, {math.MaxInt, most}, {math.MinInt, least},
	} {
		if got := fixeds.Of(c.n); got != c.want {
			t.Errorf("Of(%d): %d, not %d", c.n, got, c.want)
		}
	}
}

// P2.2: Add, Sub, Mul, Div of all pairs.
func TestPairs(t *testing.T) {
	all := someFixes()
	for _, a := range all {
		for _, b := range all {
			x, y := whole(int64(a)), whole(int64(b))
			check(t, fixeds.Add(a, b), api.OK, new(big.Rat).Add(x, y), "Add", a, b)
			check(t, fixeds.Sub(a, b), api.OK, new(big.Rat).Sub(x, y), "Sub", a, b)
			p := new(big.Rat).Mul(x, y)
			check(t, fixeds.Mul(a, b), api.OK, p.Quo(p, whole(65536)), "Mul", a, b)
			got, e := fixeds.Div(a, b)
			if b == 0 {
				checkZero(t, got, e, "Div", a, b)
				continue
			}
			q := new(big.Rat).Quo(x, y)
			check(t, got, e, q.Mul(q, whole(65536)), "Div", a, b)
		}
	}
}

// P2.2: Ratio, to the ends of 64 bits; ErrZero of a d that is 0.
func TestRatio(t *testing.T) {
	all := someInts()
	for _, n := range all {
		got, e := fixeds.Ratio(n, 0)
		checkZero(t, got, e, "Ratio", n, 0)
		for _, d := range all {
			if d == 0 {
				continue
			}
			got, e := fixeds.Ratio(n, d)
			q := new(big.Rat).Quo(whole(n), whole(d))
			check(t, got, e, q.Mul(q, whole(65536)), "Ratio", n, d)
		}
	}
}

// P2.2: halves of either sign, whichever of the two the sign stands at, go up; what lies next to them goes where it is nearer.
func TestRatioAtHalves(t *testing.T) {
	for _, c := range []struct {
		n, d int64
		want api.Fix
	}{
		{1, 131072, 1}, {-1, 131072, 0}, {1, -131072, 0}, {-1, -131072, 1},
		{3, 131072, 2}, {-3, 131072, -1}, {3, -131072, -1}, {-3, -131072, 2},
		{1, 131073, 0}, {1, 131071, 1}, {-1, 131073, 0}, {-1, 131071, -1},
		{1 << 46, -1 << 63, 0}, {1<<46 + 1, -1 << 63, -1}, {-1 << 46, -1 << 63, 1}, {-1<<46 + 1, -1 << 63, 0},
		{3 << 46, -1 << 63, -1}, {-3 << 46, -1 << 63, 2},
		{math.MaxInt64, math.MinInt64, -one}, {math.MinInt64, math.MaxInt64, -one},
		{math.MinInt64, math.MinInt64, one}, {math.MaxInt64, math.MaxInt64, one},
		{math.MinInt64, 1, least}, {math.MinInt64, -1, most}, {math.MaxInt64, 1, most}, {math.MaxInt64, -1, least},
		{-32768, 1, least}, {32768, -1, least}, {32768, 1, most}, {-32768, -1, most},
	} {
		if got, e := fixeds.Ratio(c.n, c.d); got != c.want || e != api.OK {
			t.Errorf("Ratio(%d, %d): %d, %v, not %d", c.n, c.d, got, e, c.want)
		}
	}
}

// checkWhole: a whole one against so many of them.
func checkWhole(t *testing.T, got api.Fix, want *big.Int, call string, a api.Fix) {
	t.Helper()
	if w := held(new(big.Int).Mul(want, big.NewInt(65536))); got != w {
		t.Errorf("%s(%d): %d, not %d", call, a, got, w)
	}
}

// P2.3: Floor, Ceil, Round, Trunc.
func TestWholeOnes(t *testing.T) {
	for _, a := range someFixes() {
		x := big.NewRat(int64(a), 65536)
		checkWhole(t, fixeds.Floor(a), floored(x), "Floor", a)
		up := floored(new(big.Rat).Neg(x))
		checkWhole(t, fixeds.Ceil(a), up.Neg(up), "Ceil", a)
		checkWhole(t, fixeds.Round(a), near(x), "Round", a)
		checkWhole(t, fixeds.Trunc(a), new(big.Int).Quo(x.Num(), x.Denom()), "Trunc", a)
	}
}

// P2.3: the edges, written out: Floor, Ceil, Round, Trunc of the first of each.
func TestWholeOnesAtEdges(t *testing.T) {
	last := 32767 * one
	for _, c := range [][5]api.Fix{
		{0, 0, 0, 0, 0},
		{1, 0, one, 0, 0},
		{-1, -one, 0, 0, 0},
		{half - 1, 0, one, 0, 0},
		{half, 0, one, one, 0},
		{-half, -one, 0, 0, 0},
		{-half - 1, -one, 0, -one, 0},
		{one + half, one, 2 * one, 2 * one, one},
		{-one - half, -2 * one, -one, -one, -one},
		{-one, -one, -one, -one, -one},
		{last, last, last, last, last},
		{last + 1, last, most, last, last},
		{last + half - 1, last, most, last, last},
		{last + half, last, most, most, last},
		{most, last, most, most, last},
		{least, least, least, least, least},
		{least + 1, least, -last, least, -last},
		{least + half - 1, least, -last, least, -last},
		{least + half, least, -last, -last, -last},
	} {
		got := [5]api.Fix{c[0], fixeds.Floor(c[0]), fixeds.Ceil(c[0]), fixeds.Round(c[0]), fixeds.Trunc(c[0])}
		if got != c {
			t.Error(got, "not", c)
		}
	}
}

// someRanges: all pairs of some ends, those whose Hi is below Lo and those without width among them.
func someRanges() []api.Range {
	ends := []api.Fix{least, -one, -1, 0, 1, 2, 7, 3 * half, most}
	var out []api.Range
	for _, lo := range ends {
		for _, hi := range ends {
			out = append(out, api.Range{Lo: lo, Hi: hi})
		}
	}
	return out
}

// led: where Line leads x, ahead of the rounding; from has a width.
func led(x api.Fix, from, to api.Range) *big.Rat {
	share := big.NewRat(int64(x)-int64(from.Lo), int64(from.Hi)-int64(from.Lo))
	share.Mul(share, whole(int64(to.Hi)-int64(to.Lo)))
	return share.Add(share, whole(int64(to.Lo)))
}

// P2.4: Line; ErrZero of a range without width, wherever x is.
func TestLine(t *testing.T) {
	all := someRanges()
	for _, x := range []api.Fix{least, -one - 1, -1, 0, 1, 5, half, one, 12345678, most} {
		for _, from := range all {
			for _, to := range all {
				got, e := fixeds.Line(x, from, to)
				if from.Lo == from.Hi {
					checkZero(t, got, e, "Line", x, from, to)
					continue
				}
				check(t, got, e, led(x, from, to), "Line", x, from, to)
			}
		}
	}
}

// P2.4: halves, turned ranges, and what is held only at the end: on the way it is beyond.
func TestLineAtEdges(t *testing.T) {
	for _, c := range []struct {
		x        api.Fix
		from, to api.Range
		want     api.Fix
	}{
		{1, api.Range{Lo: 0, Hi: 2}, api.Range{Lo: 0, Hi: 3}, 2},
		{1, api.Range{Lo: 2, Hi: 0}, api.Range{Lo: 0, Hi: 3}, 2},
		{1, api.Range{Lo: 0, Hi: 2}, api.Range{Lo: 0, Hi: -3}, -1},
		{1, api.Range{Lo: 2, Hi: 0}, api.Range{Lo: 0, Hi: -3}, -1},
		{-1, api.Range{Lo: 0, Hi: 2}, api.Range{Lo: 0, Hi: 3}, -1},
		{1, api.Range{Lo: 0, Hi: 2}, api.Range{Lo: -5, Hi: -2}, -3},
		{most, api.Range{Lo: least, Hi: most}, api.Range{Lo: least, Hi: most}, most},
		{least, api.Range{Lo: most, Hi: least}, api.Range{Lo: least, Hi: most}, most},
		{0, api.Range{Lo: least, Hi: most}, api.Range{Lo: most, Hi: least}, -1},
		{most, api.Range{Lo: 0, Hi: most}, api.Range{Lo: least, Hi: most}, most},
		{2, api.Range{Lo: 0, Hi: 1}, api.Range{Lo: least, Hi: 0}, most},
		{-1, api.Range{Lo: 0, Hi: 1}, api.Range{Lo: least, Hi: 0}, least},
		{least, api.Range{Lo: most, Hi: most - 1}, api.Range{Lo: least, Hi: most}, most},
		{7, api.Range{Lo: 0, Hi: 1}, api.Range{Lo: 4, Hi: 4}, 4},
	} {
		if got, e := fixeds.Line(c.x, c.from, c.to); got != c.want || e != api.OK {
			t.Errorf("Line(%d, %v, %v): %d, %v, not %d", c.x, c.from, c.to, got, e, c.want)
		}
	}
}
