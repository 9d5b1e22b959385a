package decodes_test

import (
	"testing"

	"gouache/api"
	"gouache/decodes"
	"gouache/wides"
)

// value: of a number that may be.
func value(t *testing.T, raw uint32, bits int, r api.Range) api.Ratio {
	t.Helper()
	q, e := decodes.Value(raw, bits, r)
	if e != api.OK {
		t.Errorf("Value(%d, %d, %v): %v", raw, bits, r, e)
	}
	return q
}

// P7.4: both ends are led to just the range's.
func TestEndsAreLedToEnds(t *testing.T) {
	for bits := 1; bits <= 32; bits++ {
		g := greatest(bits)
		for _, r := range someRanges() {
			low, high := value(t, 0, bits, r), value(t, uint32(g), bits, r)
			if low != (api.Ratio{N: wides.Mul(int64(r.Lo), g), D: g}) || high != (api.Ratio{N: wides.Mul(int64(r.Hi), g), D: g}) {
				t.Errorf("%d bits: the ends of %v: %v, %v", bits, r, low, high)
			}
			if decodes.Near(low) != r.Lo || decodes.Near(high) != r.Hi {
				t.Errorf("%d bits: the ends of %v, nearest: %d, %d", bits, r, decodes.Near(low), decodes.Near(high))
			}
		}
	}
}

// P7.4: a number and g less it are led to as much together as both ends are.
func TestANumberAndWhatIsLeft(t *testing.T) {
	for bits := 1; bits <= 32; bits++ {
		g := uint32(greatest(bits))
		for _, r := range someRanges() {
			ends, e := wides.Add(value(t, 0, bits, r).N, value(t, g, bits, r).N)
			if e != api.OK {
				t.Error(bits, r, e)
			}
			for _, raw := range someRaws(bits) {
				both, e := wides.Add(value(t, raw, bits, r).N, value(t, g-raw, bits, r).N)
				if both != ends || e != api.OK {
					t.Errorf("%d and %d of %d bits, %v: %v together, not %v", raw, g-raw, bits, r, bigOf(both), bigOf(ends))
				}
			}
		}
	}
}

// P7.4: the range turned round leads the one where the other one was led.
func TestRangesTurnedRound(t *testing.T) {
	for bits := 1; bits <= 32; bits++ {
		g := uint32(greatest(bits))
		for _, r := range someRanges() {
			for _, raw := range someRaws(bits) {
				if value(t, raw, bits, r) != value(t, g-raw, bits, to(r.Hi, r.Lo)) {
					t.Errorf("%d of %d bits, %v, is not where %d is led, turned round", raw, bits, r, g-raw)
				}
			}
		}
	}
}

func checkBack(t *testing.T, raw uint32, bits int, r api.Range) {
	t.Helper()
	v := decodes.Near(value(t, raw, bits, r))
	if back, e := decodes.Raw(v, bits, r); back != raw || e != api.OK {
		t.Errorf("Raw(Near(Value(%d, %d, %v))): %d, %v", raw, bits, r, back, e)
	}
}

// P7.4: Raw of Near of Value is the number again: each number of few bits, the narrowest ranges that are wide enough first.
func TestEachNumberComesBack(t *testing.T) {
	for bits := 1; bits <= 10; bits++ {
		g := api.Fix(greatest(bits))
		for _, wide := range []api.Fix{g + 1, g + 2, 2*g + 1, 3 * g, 65536} {
			for _, lo := range []api.Fix{0, 1, -wide, -wide / 2, least, most - wide} {
				for raw := range uint32(g) + 1 {
					checkBack(t, raw, bits, to(lo, lo+wide))
					checkBack(t, raw, bits, to(lo+wide, lo))
				}
			}
		}
	}
}

// P7.4: likewise of more bits; of 32 no range is wide enough.
func TestNumbersComeBack(t *testing.T) {
	for bits := 1; bits <= 31; bits++ {
		wide := greatest(bits) + 1
		narrow := []api.Range{
			to(least, api.Fix(int64(least)+wide)), to(api.Fix(int64(least)+wide), least),
			to(most, api.Fix(int64(most)-wide)), to(api.Fix(int64(most)-wide), most),
		}
		for _, r := range append(someRanges(), narrow...) {
			width := int64(r.Hi) - int64(r.Lo)
			if max(width, -width) < wide {
				continue
			}
			for _, raw := range someRaws(bits) {
				checkBack(t, raw, bits, r)
			}
		}
	}
}

// The document's examples of numbers that are led. (P7.1, P7.3)
func TestExamplesLed(t *testing.T) {
	if q := value(t, 3, 2, to(5, 8)); q != (api.Ratio{N: wides.Of(24), D: 3}) {
		t.Error("Value(3, 2, 5 to 8):", q)
	}
	q := value(t, 1, 2, to(0, 65536))
	if q != (api.Ratio{N: wides.Of(65536), D: 3}) || decodes.Near(q) != 21845 {
		t.Error("Value(1, 2, 0 to 65536):", q, decodes.Near(q))
	}
	checkValueWrong(t, 4, 2, to(0, 65536))
	checkValueWrong(t, 0, 33, to(0, 65536))
	if v := decodes.Near(api.Ratio{N: wides.Of(5)}); v != 0 {
		t.Error("Near(5 by 0):", v)
	}
}

// The document's examples of numbers that are found. (P7.2)
func TestExamplesFound(t *testing.T) {
	for _, c := range []struct {
		v    api.Fix
		r    api.Range
		want uint32
		e    api.Errno
	}{{32768, to(0, 65536), 128, api.OK}, {-1, to(0, 65536), 0, api.OK}, {99999, to(0, 65536), 255, api.OK}, {0, to(7, 7), 0, api.ErrZero}} {
		if raw, e := decodes.Raw(c.v, 8, c.r); raw != c.want || e != c.e {
			t.Error("Raw:", c, raw, e)
		}
	}
}
