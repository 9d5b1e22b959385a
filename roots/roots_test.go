package roots_test

import (
	"math"
	"math/big"
	"testing"

	"gouache/api"
	"gouache/roots"
)

const (
	mostFix   = api.Fix(math.MaxInt32)
	leastFix  = api.Fix(math.MinInt32)
	mostPlain = uint64(math.MaxUint64)
	// mostRoot: of the greatest wide; one more, squared, is no wide.
	mostRoot = uint64(13043817825332782212)
)

var mostWide = api.Wide{Hi: math.MaxInt64, Lo: math.MaxUint64}

func bigOf(n uint64) *big.Int { return new(big.Int).SetUint64(n) }

func bigOfWide(a api.Wide) *big.Int {
	n := new(big.Int).Lsh(big.NewInt(a.Hi), 64)
	return n.Add(n, bigOf(a.Lo))
}

// wideOf: a number as a wide; false: it is none, or below 0.
func wideOf(n *big.Int) (api.Wide, bool) {
	if n.Sign() < 0 || n.Cmp(bigOfWide(mostWide)) > 0 {
		return api.Wide{}, false
	}
	lo := new(big.Int).And(n, bigOf(mostPlain))
	return api.Wide{Hi: new(big.Int).Rsh(n, 64).Int64(), Lo: lo.Uint64()}, true
}

func squared(n *big.Int) *big.Int { return new(big.Int).Mul(n, n) }

// isRoot: the document's own words for a root, reckoned by the library.
func isRoot(root, of *big.Int) bool {
	next := new(big.Int).Add(root, big.NewInt(1))
	return root.Sign() >= 0 && squared(root).Cmp(of) <= 0 && squared(next).Cmp(of) > 0
}

// stir: a number from the one before it, the same in each run.
func stir(n uint64) uint64 {
	n ^= n << 13
	n ^= n >> 7
	return n ^ n<<17
}

// someRoots: about each power of two up to 64 bits, about the greatest wide's root, and some in no order.
func someRoots() []uint64 {
	out := []uint64{mostPlain - 1, mostPlain, mostRoot - 2, mostRoot - 1, mostRoot, mostRoot + 1, mostRoot + 2}
	for k := range 64 {
		for less := range uint64(3) {
			out = append(out, 1<<k+1-less)
		}
	}
	n := uint64(88172645463325252)
	for i := range 128 {
		n = stir(n)
		out = append(out, n>>(i%64))
	}
	return out
}

// somePlains: all small ones, those about some squares, and the roots themselves.
func somePlains() []uint64 {
	out := someRoots()
	for n := range uint64(5000) {
		out = append(out, n)
	}
	for _, r := range someRoots() {
		if r < 1<<32 {
			// One less than 0 wraps: that is the greatest number, as good as others.
			out = append(out, r*r-1, r*r, r*r+1, r*r+2*r)
		}
	}
	return out
}

// someWides: none below 0: about the powers of two, about some squares, and some in no order.
func someWides() []api.Wide {
	var numbers []*big.Int
	for k := range uint(128) {
		numbers = append(numbers, new(big.Int).Lsh(big.NewInt(1), k))
	}
	for _, r := range someRoots() {
		numbers = append(numbers, squared(bigOf(r)))
	}
	out := []api.Wide{{}, mostWide}
	for _, n := range numbers {
		for more := int64(-2); more <= 2; more++ {
			if a, ok := wideOf(new(big.Int).Add(n, big.NewInt(more))); ok {
				out = append(out, a)
			}
		}
	}
	n := uint64(362436069)
	for i := range 128 {
		n = stir(n)
		hi := int64(n >> (1 + i%63))
		n = stir(n)
		out = append(out, api.Wide{Hi: hi, Lo: n})
	}
	return out
}

// someFixes: none below 0: all small ones, those about the powers of two, and some in no order.
func someFixes() []api.Fix {
	out := []api.Fix{mostFix - 1, mostFix}
	for x := range api.Fix(5000) {
		out = append(out, x)
	}
	for k := range 31 {
		out = append(out, 1<<k-1, 1<<k, 1<<k+1)
	}
	n := uint64(521288629)
	for i := range 256 {
		n = stir(n)
		out = append(out, api.Fix(n>>33)>>(i%31))
	}
	return out
}

// P3.1: Root.
func TestRoot(t *testing.T) {
	for _, n := range somePlains() {
		if r := roots.Root(n); !isRoot(bigOf(r), bigOf(n)) {
			t.Errorf("Root(%d): %d", n, r)
		}
	}
}

// P3.1: Root, the edges written out.
func TestRootAtEdges(t *testing.T) {
	for _, c := range []struct{ n, want uint64 }{
		{0, 0}, {1, 1}, {2, 1}, {3, 1}, {4, 2}, {5, 2}, {8, 2}, {9, 3}, {10, 3}, {24, 4}, {25, 5}, {26, 5},
		{1<<32 - 1, 65535}, {1 << 32, 65536}, {1<<32 + 1, 65536},
		{1<<62 - 1, 1<<31 - 1}, {1 << 62, 1 << 31}, {1<<62 + 1, 1 << 31},
		{1<<63 - 1, 3037000499}, {1 << 63, 3037000499},
		{18446744065119617024, 1<<32 - 2}, {18446744065119617025, 1<<32 - 1}, {18446744065119617026, 1<<32 - 1},
		{mostPlain - 1, 1<<32 - 1}, {mostPlain, 1<<32 - 1},
	} {
		if r := roots.Root(c.n); r != c.want {
			t.Errorf("Root(%d): %d, not %d", c.n, r, c.want)
		}
	}
}

// P3.1: RootWide.
func TestRootWide(t *testing.T) {
	for _, a := range someWides() {
		if r, e := roots.RootWide(a); e != api.OK || !isRoot(bigOf(r), bigOfWide(a)) {
			t.Errorf("RootWide(%v): %d, %v", a, r, e)
		}
	}
}

// P3.1: RootWide, the edges written out: the greatest roots are of 64 bits, and the next squares no wides.
func TestRootWideAtEdges(t *testing.T) {
	last, ok := wideOf(squared(bigOf(mostRoot)))
	if !ok {
		t.Fatal("the square of the greatest root is no wide")
	}
	for _, c := range []struct {
		a    api.Wide
		want uint64
	}{
		{api.Wide{}, 0}, {api.Wide{Lo: 1}, 1}, {api.Wide{Lo: 3}, 1}, {api.Wide{Lo: 4}, 2},
		{api.Wide{Lo: mostPlain}, 1<<32 - 1}, {api.Wide{Hi: 1}, 1 << 32}, {api.Wide{Hi: 1, Lo: 1}, 1 << 32},
		{api.Wide{Hi: 1, Lo: 1 << 33}, 1 << 32}, {api.Wide{Hi: 1, Lo: 1<<33 + 1}, 1<<32 + 1},
		{api.Wide{Hi: 1<<62 - 1, Lo: mostPlain}, 1<<63 - 1}, {api.Wide{Hi: 1 << 62}, 1 << 63}, {api.Wide{Hi: 1 << 62, Lo: 1}, 1 << 63},
		{api.Wide{Hi: last.Hi, Lo: last.Lo - 1}, mostRoot - 1}, {last, mostRoot}, {api.Wide{Hi: last.Hi, Lo: last.Lo + 1}, mostRoot},
		{api.Wide{Hi: math.MaxInt64}, mostRoot - 1}, {mostWide, mostRoot},
	} {
		if r, e := roots.RootWide(c.a); r != c.want || e != api.OK {
			t.Errorf("RootWide(%v): %d, %v, not %d", c.a, r, e, c.want)
		}
	}
}

// P3.1: of a wide that is of 64 bits, both calls answer one root.
func TestRootWideOfPlain(t *testing.T) {
	for _, n := range somePlains() {
		if r, e := roots.RootWide(api.Wide{Lo: n}); r != roots.Root(n) || e != api.OK {
			t.Errorf("RootWide(%d): %d, %v, though Root: %d", n, r, e, roots.Root(n))
		}
	}
}

// P3.1: nothing but ErrArg of a wide below 0, whatever its Lo is.
func TestRootWideBelowNought(t *testing.T) {
	for _, hi := range []int64{-1, -2, -1 << 32, math.MinInt64 + 1, math.MinInt64} {
		for _, lo := range []uint64{0, 1, 4, 1 << 63, mostPlain - 1, mostPlain} {
			if r, e := roots.RootWide(api.Wide{Hi: hi, Lo: lo}); r != 0 || e != api.ErrArg {
				t.Errorf("RootWide(%d, %d): %d, %v, not ErrArg", hi, lo, r, e)
			}
		}
	}
}

// P3.2: Sqrt: the root of 65536 times as many 65536ths.
func TestSqrt(t *testing.T) {
	for _, x := range someFixes() {
		of := new(big.Int).Mul(big.NewInt(int64(x)), big.NewInt(65536))
		if y, e := roots.Sqrt(x); e != api.OK || !isRoot(big.NewInt(int64(y)), of) {
			t.Errorf("Sqrt(%d): %d, %v", x, y, e)
		}
	}
}

// P3.2: Sqrt, the edges written out: 0, whole squares and their neighbours, the greatest fix.
func TestSqrtAtEdges(t *testing.T) {
	for _, c := range []struct{ x, want api.Fix }{
		{0, 0}, {1, 256}, {2, 362}, {3, 443}, {4, 512},
		{16383, 32766}, {16384, 32768}, {16385, 32768},
		{65535, 65535}, {65536, 65536}, {65537, 65536},
		{131072, 92681}, {262143, 131071}, {262144, 131072}, {262145, 131072},
		{1 << 30, 1 << 23}, {mostFix - 1, 11863283}, {mostFix, 11863283},
	} {
		if y, e := roots.Sqrt(c.x); y != c.want || e != api.OK {
			t.Errorf("Sqrt(%d): %d, %v, not %d", c.x, y, e, c.want)
		}
	}
}

// P3.2: nothing but ErrArg of a fix below 0.
func TestSqrtBelowNought(t *testing.T) {
	for _, x := range []api.Fix{-1, -2, -4, -65535, -65536, -65537, leastFix + 1, leastFix} {
		if y, e := roots.Sqrt(x); y != 0 || e != api.ErrArg {
			t.Errorf("Sqrt(%d): %d, %v, not ErrArg", x, y, e)
		}
	}
}

// P3.3: Log: the greatest k of which 2^k is not above n.
func TestLog(t *testing.T) {
	if k := roots.Log(0); k != -1 {
		t.Errorf("Log(0): %d", k)
	}
	for _, n := range somePlains() {
		if n == 0 {
			continue
		}
		want := 63
		for uint64(1)<<want > n {
			want--
		}
		if k := roots.Log(n); k != want {
			t.Errorf("Log(%d): %d, not %d", n, k, want)
		}
	}
}

// P3.3: Log of the powers of 2 and their neighbours.
func TestLogAboutPowers(t *testing.T) {
	for k := range 64 {
		n := uint64(1) << k
		if got := roots.Log(n - 1); got != k-1 {
			t.Errorf("Log(2^%d - 1): %d", k, got)
		}
		if got := roots.Log(n); got != k {
			t.Errorf("Log(2^%d): %d", k, got)
		}
		if got := roots.Log(n + 1); k > 0 && got != k {
			t.Errorf("Log(2^%d + 1): %d", k, got)
		}
	}
	if got := roots.Log(mostPlain); got != 63 {
		t.Errorf("Log(2^64 - 1): %d", got)
	}
}
