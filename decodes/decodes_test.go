package decodes_test

import (
	"math"
	"math/big"
	"testing"

	"gouache/api"
	"gouache/decodes"
	"gouache/wides"
)

// wrongBits: none, fewer, more than 32; among them those whose lowest bits would be of a number that may be.
var wrongBits = []int{0, -1, -2, -32, -64, math.MinInt32, math.MinInt, 33, 34, 63, 64, 65, 96, 256 + 8, math.MaxInt32, math.MaxInt}

// P7.1: each number of all bits that may be, led to ranges of all kinds.
func TestValue(t *testing.T) {
	ranges := someRanges()
	for bits := 1; bits <= 32; bits++ {
		for _, raw := range someRaws(bits) {
			for _, r := range ranges {
				checkValue(t, raw, bits, r)
			}
		}
	}
}

// P7.1: the edges, written out: N and D are not made smaller by what they share.
func TestValueAtTheEdges(t *testing.T) {
	const g = 1<<32 - 1
	for _, c := range []struct {
		raw  uint32
		bits int
		r    api.Range
		n    api.Wide
		d    int64
	}{
		{0, 1, to(-9, 4), wides.Of(-9), 1},
		{1, 1, to(-9, 4), wides.Of(4), 1},
		{1, 2, to(10, 10), wides.Of(30), 3},
		{3, 2, to(10, 10), wides.Of(30), 3},
		{1, 2, to(6, 0), wides.Of(12), 3},
		{1, 2, to(0, 6), wides.Of(6), 3},
		{0, 32, to(0, 0), wides.Of(0), g},
		{0, 32, to(least, most), wides.Mul(-1<<31, g), g},
		{g, 32, to(least, most), wides.Mul(1<<31-1, g), g},
		{0, 32, to(most, least), wides.Mul(1<<31-1, g), g},
		{g, 32, to(most, least), wides.Mul(-1<<31, g), g},
		{1, 32, to(most, least), wides.Mul(1<<31-2, g), g},
		{g, 32, to(least, least), wides.Mul(-1<<31, g), g},
	} {
		if q, e := decodes.Value(c.raw, c.bits, c.r); q != (api.Ratio{N: c.n, D: c.d}) || e != api.OK {
			t.Errorf("Value(%d, %d, %v): %v, %v", c.raw, c.bits, c.r, q, e)
		}
	}
}

// P7.1: the greatest number is led, one more is ErrArg, and so are all above.
func TestValueAboveTheGreatest(t *testing.T) {
	for bits := 1; bits < 32; bits++ {
		g := uint32(greatest(bits))
		checkValue(t, g, bits, to(-5, 70000))
		for _, raw := range []uint32{g + 1, g + 2, 2*g + 1, math.MaxUint32} {
			for _, r := range []api.Range{to(0, 1), to(1, 0), to(7, 7), to(least, most)} {
				checkValueWrong(t, raw, bits, r)
			}
		}
	}
}

// P7.1: bits that may not be, whatever the number and the range are.
func TestValueOfWrongBits(t *testing.T) {
	for _, bits := range wrongBits {
		for _, raw := range []uint32{0, 1, 255, math.MaxUint32} {
			for _, r := range []api.Range{to(0, 65536), to(65536, 0), to(7, 7), to(0, 0), to(least, most)} {
				checkValueWrong(t, raw, bits, r)
			}
		}
	}
}

func checkValueWrong(t *testing.T, raw uint32, bits int, r api.Range) {
	t.Helper()
	if q, e := decodes.Value(raw, bits, r); q != (api.Ratio{}) || e != api.ErrArg {
		t.Errorf("Value(%d, %d, %v): %v, %v, not ErrArg", raw, bits, r, q, e)
	}
}

// P7.2: fixes within and beyond ranges of all kinds.
func TestRaw(t *testing.T) {
	fixes, ranges := someFixes(), someRanges()
	for _, bits := range []int{1, 2, 3, 8, 12, 16, 24, 31, 32} {
		for _, r := range ranges {
			for _, v := range fixes {
				checkRaw(t, v, bits, r)
			}
		}
	}
}

// P7.2: all fixes about small ranges: there most of them are half-way between two numbers for some bits.
func TestRawOfSmallRanges(t *testing.T) {
	for bits := 1; bits <= 6; bits++ {
		for lo := api.Fix(-6); lo <= 6; lo++ {
			for hi := api.Fix(-6); hi <= 6; hi++ {
				for v := api.Fix(-9); v <= 9; v++ {
					checkRaw(t, v, bits, to(lo, hi))
				}
			}
		}
	}
}

// P7.2: about the ends of a range, and about each half-way between two numbers, of either sign.
func TestRawAtEndsAndHalves(t *testing.T) {
	for _, bits := range []int{1, 2, 4, 8} {
		g := api.Fix(greatest(bits))
		for _, step := range []api.Fix{2, 3, 4, 256, 257} {
			for _, lo := range []api.Fix{0, -5, 1 << 20, least, most - g*step} {
				for k := api.Fix(0); k < g; k++ {
					half := lo + k*step + step/2
					for _, v := range []api.Fix{half - 1, half, half + 1} {
						checkRaw(t, v, bits, to(lo, lo+g*step))
						checkRaw(t, v, bits, to(lo+g*step, lo))
					}
				}
			}
		}
	}
}

// P7.2: the edges, written out; a half is the greater number, whichever way the range goes.
func TestRawAtTheEdges(t *testing.T) {
	const g = 1<<32 - 1
	for _, c := range []struct {
		v    api.Fix
		bits int
		r    api.Range
		want uint32
	}{
		{1, 1, to(0, 2), 1}, {1, 1, to(2, 0), 1}, {-1, 1, to(0, -2), 1}, {-1, 1, to(-2, 0), 1},
		{1, 2, to(0, 6), 1}, {5, 2, to(0, 6), 3}, {1, 2, to(6, 0), 3}, {5, 2, to(6, 0), 1},
		{10, 8, to(10, 20), 0}, {9, 8, to(10, 20), 0}, {20, 8, to(10, 20), 255}, {21, 8, to(10, 20), 255},
		{10, 8, to(20, 10), 255}, {9, 8, to(20, 10), 255}, {20, 8, to(20, 10), 0}, {21, 8, to(20, 10), 0},
		{least, 32, to(least, most), 0}, {most, 32, to(least, most), g}, {0, 32, to(least, most), 1 << 31},
		{least, 32, to(most, least), g}, {most, 32, to(most, least), 0}, {0, 32, to(most, least), 1<<31 - 1},
		{least, 32, to(0, 1), 0}, {most, 32, to(0, 1), g}, {least, 32, to(1, 0), g}, {most, 32, to(1, 0), 0},
		{least, 32, to(most-1, most), 0}, {most, 32, to(least, least+1), g},
		{most, 1, to(least, most), 1}, {0, 1, to(least, most), 1}, {-1, 1, to(least, most), 0},
	} {
		if raw, e := decodes.Raw(c.v, c.bits, c.r); raw != c.want || e != api.OK {
			t.Errorf("Raw(%d, %d, %v): %d, %v, not %d", c.v, c.bits, c.r, raw, e, c.want)
		}
	}
}

// P7.2: bits that may not be: ErrArg, ahead of ErrZero where the range has no width besides.
func TestRawOfWrongBits(t *testing.T) {
	for _, bits := range wrongBits {
		for _, v := range []api.Fix{0, 1, 7, least, most} {
			for _, r := range []api.Range{to(0, 65536), to(65536, 0), to(7, 7), to(0, 0), to(least, most), to(most, most)} {
				if raw, e := decodes.Raw(v, bits, r); raw != 0 || e != api.ErrArg {
					t.Errorf("Raw(%d, %d, %v): %d, %v, not ErrArg", v, bits, r, raw, e)
				}
			}
		}
	}
}

// P7.2: a range without a width, of all bits that may be, the fix that it is made of included.
func TestRawWithoutWidth(t *testing.T) {
	for bits := 1; bits <= 32; bits++ {
		for _, end := range []api.Fix{0, 7, -7, 65536, least, most} {
			for _, v := range []api.Fix{end, 0, 1, -1, least, most} {
				if raw, e := decodes.Raw(v, bits, to(end, end)); raw != 0 || e != api.ErrZero {
					t.Errorf("Raw(%d, %d, %d to %d): %d, %v, not ErrZero", v, bits, end, end, raw, e)
				}
			}
		}
	}
}

// wideOf: a number that is known to be a wide.
func wideOf(n *big.Int) api.Wide {
	lo := new(big.Int).And(n, new(big.Int).SetUint64(math.MaxUint64))
	return api.Wide{Hi: new(big.Int).Rsh(n, 64).Int64(), Lo: lo.Uint64()}
}

// someWides: about each power of two, of either sign, up to the ends.
func someWides() []api.Wide {
	out := []api.Wide{leastWide, mostWide}
	for k := uint(0); k < 127; k++ {
		for more := int64(-2); more <= 2; more++ {
			n := new(big.Int).Lsh(big.NewInt(1), k)
			n.Add(n, big.NewInt(more))
			out = append(out, wideOf(n), wideOf(new(big.Int).Neg(n)))
		}
	}
	return out
}

// P7.3: wides of all sizes by numbers of all sizes, those below 1 among them.
func TestNear(t *testing.T) {
	divisors := []int64{math.MinInt64, math.MinInt64 + 1, -1 << 32, -3, -2, -1, 0, 1, 2, 3, 7, 255, 65535, 65536, 1<<31 - 1, 1 << 31, 1<<32 - 1, 1 << 32, 1 << 62, math.MaxInt64 - 1, math.MaxInt64}
	for _, n := range someWides() {
		for _, d := range divisors {
			checkNear(t, api.Ratio{N: n, D: d})
		}
	}
}

// P7.3: about whole fixes, half-way between two, and about both ends of a fix, by odd and even numbers.
func TestNearAtHalvesAndEnds(t *testing.T) {
	fixes := append(someFixes(), -3, -2, 2, 3)
	for _, d := range []int64{1, 2, 3, 4, 255, 65536, 1<<32 - 1, 1 << 40, math.MaxInt64 - 1, math.MaxInt64} {
		for _, v := range fixes {
			for _, part := range []int64{0, d / 2} {
				at := new(big.Int).Mul(big.NewInt(int64(v)), big.NewInt(d))
				at.Add(at, big.NewInt(part))
				for more := int64(-2); more <= 2; more++ {
					checkNear(t, api.Ratio{N: wideOf(new(big.Int).Add(at, big.NewInt(more))), D: d})
				}
			}
		}
	}
}

// P7.3: the edges, written out.
func TestNearAtTheEdges(t *testing.T) {
	for _, c := range []struct {
		n    api.Wide
		d    int64
		want api.Fix
	}{
		{wides.Of(5), 2, 3}, {wides.Of(-5), 2, -2}, {wides.Of(4), 3, 1}, {wides.Of(5), 3, 2}, {wides.Of(-4), 3, -1}, {wides.Of(-5), 3, -2},
		{wides.Of(1<<31 - 1), 1, most}, {wides.Of(1 << 31), 1, most}, {wides.Of(-1 << 31), 1, least}, {wides.Of(-1<<31 - 1), 1, least},
		{wides.Of(1<<32 - 3), 2, most}, {wides.Of(1<<32 - 4), 2, most - 1}, {wides.Of(-1<<32 - 1), 2, least}, {wides.Of(-1<<32 + 1), 2, least + 1},
		{api.Wide{Lo: 1<<63 - 1}, 1, most}, {api.Wide{Lo: 1 << 63}, 1, most}, {api.Wide{Hi: -1, Lo: 1 << 63}, 1, least}, {api.Wide{Hi: -1, Lo: 1<<63 - 1}, 1, least},
		{api.Wide{Hi: 1}, 1, most}, {api.Wide{Hi: -1}, 1, least}, {mostWide, 1, most}, {leastWide, 1, least}, {mostWide, math.MaxInt64, most}, {leastWide, math.MaxInt64, least},
		{mostWide, 0, 0}, {leastWide, 0, 0}, {mostWide, -1, 0}, {leastWide, -1, 0}, {leastWide, math.MinInt64, 0}, {wides.Of(5), 0, 0}, {wides.Of(5), -1, 0}, {api.Wide{}, 0, 0}, {api.Wide{}, 1, 0},
	} {
		if got := decodes.Near(api.Ratio{N: c.n, D: c.d}); got != c.want {
			t.Errorf("Near(%v by %d): %d, not %d", bigOf(c.n), c.d, got, c.want)
		}
	}
}
