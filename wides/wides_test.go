package wides_test

import (
	"math"
	"math/big"
	"testing"

	"gouache/api"
	"gouache/wides"
)

var (
	least = api.Wide{Hi: math.MinInt64}
	most  = api.Wide{Hi: math.MaxInt64, Lo: math.MaxUint64}
)

// bigOf: the document's own words for a wide, reckoned by the library.
func bigOf(a api.Wide) *big.Int {
	n := new(big.Int).Lsh(big.NewInt(a.Hi), 64)
	return n.Add(n, new(big.Int).SetUint64(a.Lo))
}

// wideOf: a number as a wide; false: it is none.
func wideOf(n *big.Int) (api.Wide, bool) {
	if n.Cmp(bigOf(least)) < 0 || n.Cmp(bigOf(most)) > 0 {
		return api.Wide{}, false
	}
	lo := new(big.Int).And(n, new(big.Int).SetUint64(math.MaxUint64))
	return api.Wide{Hi: new(big.Int).Rsh(n, 64).Int64(), Lo: lo.Uint64()}, true
}

// power: sign times 2^k, and more.
func power(sign int64, k uint, more int64) *big.Int {
	n := new(big.Int).Lsh(big.NewInt(sign), k)
	return n.Add(n, big.NewInt(more))
}

func wide(t *testing.T, n *big.Int) api.Wide {
	t.Helper()
	a, ok := wideOf(n)
	if !ok {
		t.Fatal("no wide:", n)
	}
	return a
}

// stir: a number from the one before it, the same in each run.
func stir(n uint64) uint64 {
	n ^= n << 13
	n ^= n >> 7
	return n ^ n<<17
}

// someWides: about each power of two that is an edge, and some in no order.
func someWides() []api.Wide {
	var out []api.Wide
	for _, k := range []uint{0, 1, 2, 16, 31, 32, 33, 62, 63, 64, 65, 95, 126, 127} {
		for more := int64(-2); more <= 2; more++ {
			for _, sign := range []int64{-1, 1} {
				if a, ok := wideOf(power(sign, k, more)); ok {
					out = append(out, a)
				}
			}
		}
	}
	n := uint64(88172645463325252)
	for i := range 60 {
		n = stir(n)
		hi := int64(n) >> (i % 64)
		n = stir(n)
		out = append(out, api.Wide{Hi: hi, Lo: n})
	}
	return out
}

// someInts: about the powers of two of 64 bits, and some in no order.
func someInts() []int64 {
	out := []int64{math.MinInt64, math.MinInt64 + 1, math.MaxInt64, math.MaxInt64 - 1}
	for _, k := range []uint{0, 1, 2, 3, 16, 31, 32, 33, 61, 62} {
		for more := int64(-2); more <= 2; more++ {
			out = append(out, 1<<k+more, -1<<k+more)
		}
	}
	n := uint64(362436069)
	for i := range 40 {
		n = stir(n)
		out = append(out, int64(n)>>(i%64))
	}
	return out
}

// check: an answer against the number that it should be; none, if that is no wide.
func check(t *testing.T, got api.Wide, e api.Errno, want *big.Int, call string, of ...any) {
	t.Helper()
	w, ok := wideOf(want)
	if ok && (got != w || e != api.OK) {
		t.Errorf("%s%v: %v, %v, not %v", call, of, bigOf(got), e, want)
	}
	if !ok && (got != api.Wide{} || e != api.ErrOver) {
		t.Errorf("%s%v: %v, %v, not ErrOver", call, of, bigOf(got), e)
	}
}

// P1.1: Of, Int.
func TestOfAndInt(t *testing.T) {
	for _, n := range someInts() {
		a := wides.Of(n)
		if bigOf(a).Cmp(big.NewInt(n)) != 0 {
			t.Errorf("Of(%d): %v", n, bigOf(a))
		}
		if back, ok := wides.Int(a); back != n || !ok {
			t.Errorf("Int(Of(%d)): %d, %v", n, back, ok)
		}
	}
	for _, a := range someWides() {
		n, ok := wides.Int(a)
		if is := bigOf(a).IsInt64(); ok != is || is && n != bigOf(a).Int64() || !is && n != 0 {
			t.Errorf("Int(%v): %d, %v", bigOf(a), n, ok)
		}
	}
}

// P1.1: Int at the ends of 64 bits.
func TestIntAtItsEnds(t *testing.T) {
	for _, c := range []struct {
		a  api.Wide
		n  int64
		ok bool
	}{
		{api.Wide{Lo: 1<<63 - 1}, math.MaxInt64, true},
		{api.Wide{Lo: 1 << 63}, 0, false},
		{api.Wide{Hi: -1, Lo: 1 << 63}, math.MinInt64, true},
		{api.Wide{Hi: -1, Lo: 1<<63 - 1}, 0, false},
		{api.Wide{Hi: 1, Lo: 5}, 0, false},
		{api.Wide{Hi: -2, Lo: math.MaxUint64}, 0, false},
		{least, 0, false},
		{most, 0, false},
	} {
		if n, ok := wides.Int(c.a); n != c.n || ok != c.ok {
			t.Errorf("Int(%v): %d, %v", bigOf(c.a), n, ok)
		}
	}
}

// P1.1: Cmp; P1.2: Add, Sub.
func TestPairs(t *testing.T) {
	all := someWides()
	for _, a := range all {
		for _, b := range all {
			x, y := bigOf(a), bigOf(b)
			if c := wides.Cmp(a, b); c != x.Cmp(y) {
				t.Errorf("Cmp(%v, %v): %d", x, y, c)
			}
			s, e := wides.Add(a, b)
			check(t, s, e, new(big.Int).Add(x, y), "Add", x, y)
			d, e := wides.Sub(a, b)
			check(t, d, e, new(big.Int).Sub(x, y), "Sub", x, y)
		}
	}
}

// P1.2: Mul, always a wide.
func TestMul(t *testing.T) {
	all := someInts()
	for _, a := range all {
		for _, b := range all {
			want := new(big.Int).Mul(big.NewInt(a), big.NewInt(b))
			check(t, wides.Mul(a, b), api.OK, want, "Mul", a, b)
		}
	}
}

// P1.2: Times.
func TestTimes(t *testing.T) {
	ints := someInts()
	for _, a := range someWides() {
		for _, n := range ints {
			p, e := wides.Times(a, n)
			check(t, p, e, new(big.Int).Mul(bigOf(a), big.NewInt(n)), "Times", bigOf(a), n)
		}
	}
}

// P1.2: the greatest products that a factor leaves, and those just over.
func TestTimesJustOver(t *testing.T) {
	for _, n := range someInts() {
		if n == 0 {
			continue
		}
		for _, end := range []api.Wide{least, most} {
			last := new(big.Int).Quo(bigOf(end), big.NewInt(n))
			for more := int64(-1); more <= 1; more++ {
				a, ok := wideOf(new(big.Int).Add(last, big.NewInt(more)))
				if !ok {
					continue
				}
				p, e := wides.Times(a, n)
				check(t, p, e, new(big.Int).Mul(bigOf(a), big.NewInt(n)), "Times", bigOf(a), n)
			}
		}
	}
}

// nearest: the greatest whole number not above n / d and a half together.
func nearest(n *big.Int, d int64) *big.Int {
	twice := new(big.Int).Lsh(n, 1)
	twice.Add(twice, big.NewInt(d))
	// Div is Euclid's: floored, where what it divides by is above 0.
	return twice.Div(twice, new(big.Int).Lsh(big.NewInt(d), 1))
}

func checkShared(t *testing.T, a api.Wide, d int64) {
	t.Helper()
	q, r, e := wides.Floor(a, d)
	n, f := wides.Near(a, d)
	if d < 1 {
		if (q != api.Wide{} || r != 0 || e != api.ErrArg || n != api.Wide{} || f != api.ErrArg) {
			t.Errorf("Floor, Near(%v, %d): %v, %d, %v, %v, %v", bigOf(a), d, bigOf(q), r, e, bigOf(n), f)
		}
		return
	}
	want, left := new(big.Int).DivMod(bigOf(a), big.NewInt(d), new(big.Int))
	check(t, q, e, want, "Floor", bigOf(a), d)
	if left.Cmp(big.NewInt(r)) != 0 {
		t.Errorf("Floor(%v, %d): %d is left, not %v", bigOf(a), d, r, left)
	}
	check(t, n, f, nearest(bigOf(a), d), "Near", bigOf(a), d)
}

// P1.3: Floor, Near; ErrArg of a d below 1.
func TestFloorAndNear(t *testing.T) {
	ints := someInts()
	for _, a := range someWides() {
		for _, d := range ints {
			checkShared(t, a, d)
		}
	}
}

// P1.3: whole quotients, halves, and what lies next to them, of either sign.
func TestFloorAndNearAtHalves(t *testing.T) {
	for _, d := range []int64{1, 2, 3, 4, 5, 10, 65535, 65536, 1<<62 - 1, 1 << 62, math.MaxInt64 - 1, math.MaxInt64} {
		for _, q := range someInts() {
			for _, more := range []int64{0, 1, d/2 - 1, d / 2, d/2 + 1, d - 1} {
				n := new(big.Int).Mul(big.NewInt(q), big.NewInt(d))
				checkShared(t, wide(t, n.Add(n, big.NewInt(more))), d)
			}
		}
	}
}

// P1.3: d below 1, whatever is divided.
func TestWrongDivisors(t *testing.T) {
	for _, a := range []api.Wide{{}, wides.Of(7), wides.Of(-7), least, most} {
		for _, d := range []int64{0, -1, -2, math.MinInt64 + 1, math.MinInt64} {
			checkShared(t, a, d)
		}
	}
}

// P1.4: the rules of sums and products, asked of the answers alone.
func TestRulesOfSums(t *testing.T) {
	all := someWides()
	for i, a := range all {
		for k, b := range all {
			s, e := wides.Add(a, b)
			if turned, f := wides.Add(b, a); turned != s || f != e {
				t.Error("a + b is not b + a:", a, b)
			}
			if e != api.OK {
				continue
			}
			if back, f := wides.Sub(s, b); back != a || f != api.OK {
				t.Error("a + b - b is not a:", a, b)
			}
			c := all[(i+k)%len(all)]
			left, e := wides.Add(s, c)
			inner, f := wides.Add(b, c)
			right, g := wides.Add(a, inner)
			if e == api.OK && f == api.OK && g == api.OK && left != right {
				t.Error("(a + b) + c is not a + (b + c):", a, b, c)
			}
		}
	}
}

// P1.4: products of sums are sums of products.
func TestRulesOfProducts(t *testing.T) {
	all, ints := someWides(), someInts()
	for i, a := range all {
		b := all[(i*7+3)%len(all)]
		s, e := wides.Add(a, b)
		for _, n := range ints {
			p, f := wides.Times(a, n)
			q, g := wides.Times(b, n)
			left, h := wides.Times(s, n)
			right, k := wides.Add(p, q)
			if e|f|g|h|k == api.OK && left != right {
				t.Error("(a + b) n is not a n + b n:", a, b, n)
			}
			if f == api.OK && n > 0 {
				if back, r, e := wides.Floor(p, n); back != a || r != 0 || e != api.OK {
					t.Error("a n by n is not a:", a, n)
				}
			}
		}
	}
	for _, m := range ints {
		for _, n := range ints {
			if wides.Mul(m, n) != wides.Mul(n, m) {
				t.Error("m n is not n m:", m, n)
			}
			if p, e := wides.Times(wides.Of(m), n); p != wides.Mul(m, n) || e != api.OK {
				t.Error("Times is not Mul:", m, n)
			}
		}
	}
}

// P1.4: what is nearest is at most half off, and a half above rather than below.
func TestNearIsHalfOffAtMost(t *testing.T) {
	for _, a := range someWides() {
		for _, d := range someInts() {
			if d < 1 {
				continue
			}
			n, e := wides.Near(a, d)
			if e != api.OK {
				t.Error("Near:", a, d, e)
			}
			// twice what it lies above, in d-ths: above -d, up to d.
			off := new(big.Int).Mul(bigOf(n), big.NewInt(d))
			off.Sub(off, bigOf(a)).Lsh(off, 1)
			if off.Cmp(big.NewInt(-d)) <= 0 || off.Cmp(big.NewInt(d)) > 0 {
				t.Errorf("Near(%v, %d): %v", bigOf(a), d, bigOf(n))
			}
		}
	}
}

// The document's examples of products and sums. (P1.2)
func TestExamplesReckoned(t *testing.T) {
	over := power(1, 128, 0)
	if got := wides.Mul(-1<<63, -1<<63); got != wide(t, power(1, 126, 0)) {
		t.Error("Mul(-2^63, -2^63):", got)
	}
	if got := wides.Mul(-3, 5); got != wides.Of(-15) {
		t.Error("Mul(-3, 5):", got)
	}
	got, e := wides.Add(most, wides.Of(1))
	check(t, got, e, over, "Add(2^127 - 1, 1)")
	got, e = wides.Sub(least, wides.Of(1))
	check(t, got, e, over, "Sub(-2^127, 1)")
	got, e = wides.Times(wide(t, power(1, 100, 0)), 1<<27)
	check(t, got, e, over, "Times(2^100, 2^27)")
	got, e = wides.Times(wide(t, power(-1, 100, 0)), 1<<27)
	check(t, got, e, bigOf(least), "Times(-2^100, 2^27)")
}

// The document's examples of quotients. (P1.1, P1.3)
func TestExamplesShared(t *testing.T) {
	if q, r, e := wides.Floor(wides.Of(-7), 2); q != wides.Of(-4) || r != 1 || e != api.OK {
		t.Error("Floor(-7, 2):", q, r, e)
	}
	for _, c := range []struct{ a, d, want int64 }{{-7, 2, -3}, {7, 2, 4}, {-8, 3, -3}} {
		if n, e := wides.Near(wides.Of(c.a), c.d); n != wides.Of(c.want) || e != api.OK {
			t.Error("Near:", c, n, e)
		}
	}
	if n, ok := wides.Int(wide(t, power(1, 63, 0))); n != 0 || ok {
		t.Error("Int(2^63):", n, ok)
	}
}
