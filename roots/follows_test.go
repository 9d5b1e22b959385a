package roots_test

import (
	"math/big"
	"slices"
	"testing"

	"gouache/api"
	"gouache/roots"
)

// P3.4: a square's root is what was squared.
func TestRootOfSquare(t *testing.T) {
	for _, r := range someRoots() {
		if r < 1<<32 {
			if got := roots.Root(r * r); got != r {
				t.Errorf("Root(%d squared): %d", r, got)
			}
		}
		a, ok := wideOf(squared(bigOf(r)))
		if !ok {
			continue
		}
		if got, e := roots.RootWide(a); got != r || e != api.OK {
			t.Errorf("RootWide(%d squared): %d, %v", r, got, e)
		}
	}
}

// P3.4: so it is of each fix whose square is a fix without rounding.
func TestSqrtOfSquare(t *testing.T) {
	// Those are the fixes of 256 n 65536ths: squared, n n of them; from 46341 on that is beyond.
	for n := range api.Fix(46341) {
		if got, e := roots.Sqrt(n * n); got != 256*n || e != api.OK {
			t.Errorf("Sqrt(%d squared): %d, %v", n, got, e)
		}
	}
}

// P3.4: roots never fall.
func TestRootsNeverFall(t *testing.T) {
	plains, wides, fixes := somePlains(), someWides(), someFixes()
	slices.Sort(plains)
	slices.Sort(fixes)
	slices.SortFunc(wides, func(a, b api.Wide) int { return bigOfWide(a).Cmp(bigOfWide(b)) })
	for i := 1; i < len(plains); i++ {
		if roots.Root(plains[i]) < roots.Root(plains[i-1]) {
			t.Errorf("Root falls from %d to %d", plains[i-1], plains[i])
		}
	}
	for i := 1; i < len(wides); i++ {
		now, _ := roots.RootWide(wides[i])
		if before, _ := roots.RootWide(wides[i-1]); now < before {
			t.Errorf("RootWide falls from %v to %v", wides[i-1], wides[i])
		}
	}
	for i := 1; i < len(fixes); i++ {
		now, _ := roots.Sqrt(fixes[i])
		if before, _ := roots.Sqrt(fixes[i-1]); now < before {
			t.Errorf("Sqrt falls from %d to %d", fixes[i-1], fixes[i])
		}
	}
}

// P3.4: four times a number has twice its root, or one more.
func TestRootOfFourTimes(t *testing.T) {
	for _, n := range somePlains() {
		if n > mostPlain/4 {
			continue
		}
		if less, more := roots.Root(n), roots.Root(4*n); more != 2*less && more != 2*less+1 {
			t.Errorf("Root(%d): %d, of four times it: %d", n, less, more)
		}
	}
	for _, a := range someWides() {
		four, ok := wideOf(new(big.Int).Lsh(bigOfWide(a), 2))
		if !ok {
			continue
		}
		less, _ := roots.RootWide(a)
		if more, _ := roots.RootWide(four); more != 2*less && more != 2*less+1 {
			t.Errorf("RootWide(%v): %d, of four times it: %d", a, less, more)
		}
	}
	for _, x := range someFixes() {
		if x > mostFix/4 {
			continue
		}
		less, _ := roots.Sqrt(x)
		if more, _ := roots.Sqrt(4 * x); more != 2*less && more != 2*less+1 {
			t.Errorf("Sqrt(%d): %d, of four times it: %d", x, less, more)
		}
	}
}

// P3.4: Log is the place of the highest bit.
func TestLogIsThePlaceOfTheHighestBit(t *testing.T) {
	for _, n := range somePlains() {
		if n == 0 {
			continue
		}
		if k := roots.Log(n); k < 0 || k > 63 || n>>k != 1 {
			t.Errorf("Log(%d): %d", n, k)
		}
	}
}

// The document's examples. (P3.1, P3.2, P3.3)
func TestExamples(t *testing.T) {
	got := [4]uint64{roots.Root(0), roots.Root(24), roots.Root(25), roots.Root(1<<64 - 1)}
	if want := [4]uint64{0, 4, 5, 1<<32 - 1}; got != want {
		t.Error("Root:", got, "not", want)
	}
	if r, e := roots.RootWide(api.Wide{Hi: 1<<63 - 1, Lo: 1<<64 - 1}); r != 13043817825332782212 || e != api.OK {
		t.Error("RootWide(2^127 - 1):", r, e)
	}
	if r, e := roots.RootWide(api.Wide{Hi: -1, Lo: 1<<64 - 1}); r != 0 || e != api.ErrArg {
		t.Error("RootWide(-1):", r, e)
	}
	for _, c := range []struct {
		x, want api.Fix
		e       api.Errno
	}{{65536, 65536, api.OK}, {131072, 92681, api.OK}, {1, 256, api.OK}, {-1, 0, api.ErrArg}} {
		if y, e := roots.Sqrt(c.x); y != c.want || e != c.e {
			t.Error("Sqrt:", c, y, e)
		}
	}
	if logs, want := [3]int{roots.Log(0), roots.Log(1), roots.Log(1 << 63)}, [3]int{-1, 0, 63}; logs != want {
		t.Error("Log:", logs, "not", want)
	}
}
