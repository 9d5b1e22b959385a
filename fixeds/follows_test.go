package fixeds_test

import (
	"cmp"
	"slices"
	"testing"

	"gouache/api"
	"gouache/fixeds"
)

// P2.5: Line leads from's ends to to's.
func TestLineLeadsEndsToEnds(t *testing.T) {
	for _, from := range someRanges() {
		if from.Lo == from.Hi {
			continue
		}
		for _, to := range someRanges() {
			if got, e := fixeds.Line(from.Lo, from, to); got != to.Lo || e != api.OK {
				t.Errorf("Line(%d, %v, %v): %d, %v", from.Lo, from, to, got, e)
			}
			if got, e := fixeds.Line(from.Hi, from, to); got != to.Hi || e != api.OK {
				t.Errorf("Line(%d, %v, %v): %d, %v", from.Hi, from, to, got, e)
			}
		}
	}
}

// P2.5: Div of Mul is at most half off, by the other factor (and rounded then, which may be half more), wherever nothing was held.
func TestDivOfMul(t *testing.T) {
	all := someFixes()
	for _, a := range all {
		for _, b := range all {
			p := fixeds.Mul(a, b)
			if b == 0 || p == least || p == most {
				continue
			}
			back, e := fixeds.Div(p, b)
			if e != api.OK {
				t.Errorf("Div(%d, %d): %v", p, b, e)
			}
			off, by := abs(int64(back)-int64(a)), abs(int64(b))
			if 2*off*by > 65536+by {
				t.Errorf("Div(Mul(%d, %d), %d): %d", a, b, b, back)
			}
			if by >= 65536 && off != 0 {
				t.Errorf("Div(Mul(%d, %d), %d): %d, though less than half off", a, b, b, back)
			}
		}
	}
}

func abs(n int64) int64 { return max(n, -n) }

// rises: of numbers that rise, none is led below the one ahead of it.
func rises[N cmp.Ordered](t *testing.T, name string, of []N, lead func(N) api.Fix) {
	t.Helper()
	sorted := slices.Clone(of)
	slices.Sort(sorted)
	for i, n := range sorted {
		if i > 0 && lead(n) < lead(sorted[i-1]) {
			t.Errorf("%s leads %v below %v", name, n, sorted[i-1])
		}
	}
}

// P2.5: what is greater is nowhere led below: calls of one number.
func TestOneNumberRises(t *testing.T) {
	fixes, ints := someFixes(), someInts()
	rises(t, "Sat", ints, fixeds.Sat)
	rises(t, "Of", ints, func(n int64) api.Fix { return fixeds.Of(int(n)) })
	rises(t, "Floor", fixes, fixeds.Floor)
	rises(t, "Ceil", fixes, fixeds.Ceil)
	rises(t, "Round", fixes, fixeds.Round)
	rises(t, "Trunc", fixes, fixeds.Trunc)
}

// P2.5: what is greater is nowhere led below: calls of two numbers; by what is below 0 all turns round.
func TestTwoNumbersRise(t *testing.T) {
	fixes, ints := someFixes(), someInts()
	for _, b := range fixes {
		rises(t, "Add", fixes, func(a api.Fix) api.Fix { return fixeds.Add(a, b) })
		rises(t, "Sub", fixes, func(a api.Fix) api.Fix { return fixeds.Sub(a, b) })
		rises(t, "Mul", fixes, func(a api.Fix) api.Fix { return turned(fixeds.Mul(a, b), b < 0) })
		rises(t, "Div", fixes, func(a api.Fix) api.Fix {
			q, _ := fixeds.Div(a, b)
			return turned(q, b < 0)
		})
	}
	for _, d := range ints {
		rises(t, "Ratio", ints, func(n int64) api.Fix {
			q, _ := fixeds.Ratio(n, d)
			return turned(q, d < 0)
		})
	}
}

// P2.5: what is greater is nowhere led below: Line; if one range is turned, and not the other, all turns round.
func TestLineRises(t *testing.T) {
	fixes := someFixes()
	for _, from := range someRanges() {
		for _, to := range someRanges() {
			rises(t, "Line", fixes, func(x api.Fix) api.Fix {
				y, _ := fixeds.Line(x, from, to)
				return turned(y, (from.Hi < from.Lo) != (to.Hi < to.Lo))
			})
		}
	}
}

// turned: what falls as the number rises, and is never beyond a Fix (as the least one's negative would be).
func turned(a api.Fix, turn bool) api.Fix {
	if turn {
		return -1 - a
	}
	return a
}

// The document's examples of products and quotients. (P2.2)
func TestExamplesReckoned(t *testing.T) {
	for _, c := range []struct{ a, b, want api.Fix }{{3, 32768, 2}, {-3, 32768, -1}} {
		if got := fixeds.Mul(c.a, c.b); got != c.want {
			t.Error("Mul:", c, got)
		}
	}
	for _, c := range []struct{ a, b, want api.Fix }{{1, 3 * 65536, 0}, {-65536, 131072, -32768}} {
		if got, e := fixeds.Div(c.a, c.b); got != c.want || e != api.OK {
			t.Error("Div:", c, got, e)
		}
	}
	got, e := fixeds.Div(5, 0)
	checkZero(t, got, e, "Div", 5, 0)
	for _, c := range []struct{ n, d, want int64 }{{1, 3, 21845}, {-1, 3, -21845}, {1, -3, -21845}, {1 << 62, 1, 1<<31 - 1}} {
		if got, e := fixeds.Ratio(c.n, c.d); int64(got) != c.want || e != api.OK {
			t.Error("Ratio:", c, got, e)
		}
	}
	if got := fixeds.Add(1<<31-1, 1); got != 1<<31-1 {
		t.Error("Add(2^31 - 1, 1):", got)
	}
}

// The document's examples of whole ones and of lines. (P2.3, P2.4)
func TestExamplesLed(t *testing.T) {
	got := [6]api.Fix{fixeds.Floor(-1), fixeds.Ceil(-1), fixeds.Round(32768), fixeds.Round(-32768), fixeds.Trunc(-65537), fixeds.Ceil(1<<31 - 1)}
	if want := [6]api.Fix{-65536, 0, 65536, 0, -65536, 1<<31 - 1}; got != want {
		t.Error(got, "not", want)
	}
	if y, e := fixeds.Line(1, api.Range{Lo: 0, Hi: 2}, api.Range{Lo: 0, Hi: 3}); y != 2 || e != api.OK {
		t.Error("Line(1, 0 to 2, 0 to 3):", y, e)
	}
	y, e := fixeds.Line(5, api.Range{}, api.Range{Lo: 0, Hi: 1})
	checkZero(t, y, e, "Line", 5)
}
