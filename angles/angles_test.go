package angles_test

import (
	"math"
	"slices"
	"testing"

	"gouache/angles"
	"gouache/api"
)

func checkCosSin(t *testing.T, a api.Fix) {
	t.Helper()
	c, s := angles.Cos(a), angles.Sin(a)
	if k, m := wantCosSin(a); c != k || s != m {
		t.Errorf("Cos, Sin(%d): %d, %d, not %d, %d", a, c, s, k, m)
	}
}

func checkAtan(t *testing.T, y, x api.Fix) {
	t.Helper()
	a, e := angles.Atan(y, x)
	if want, f := wantAtan(y, x); a != want || e != f {
		t.Errorf("Atan(%d, %d): %d, %v, not %d, %v", y, x, a, e, want, f)
	}
}

type sineCase struct{ a, sin, cos api.Fix }

func checkSines(t *testing.T, all []sineCase) {
	t.Helper()
	for _, c := range all {
		if s, k := angles.Sin(c.a), angles.Cos(c.a); s != c.sin || k != c.cos {
			t.Errorf("Sin, Cos(%d): %d, %d, not %d, %d", c.a, s, k, c.sin, c.cos)
		}
	}
}

type atanCase struct{ y, x, want api.Fix }

func checkAtans(t *testing.T, all []atanCase) {
	t.Helper()
	for _, c := range all {
		if a, e := angles.Atan(c.y, c.x); a != c.want || e != api.OK {
			t.Errorf("Atan(%d, %d): %d, %v, not %d", c.y, c.x, a, e, c.want)
		}
	}
}

// P5.1: Sin, Cos.
func TestSinCos(t *testing.T) {
	t.Parallel()
	for _, a := range slices.Concat(someFixes(), strewn(4000, 88172645463325252)) {
		checkCosSin(t, a)
	}
	// Once around, either way.
	for a := -4 * quarter; a <= 4*quarter; a += 11003 {
		checkCosSin(t, a)
	}
}

// P5.1: Sin, Cos, as against those of floats: the words of the document and these are one.
func TestSinCosAgainstFloats(t *testing.T) {
	t.Parallel()
	for _, a := range slices.Concat(someFixes(), strewn(4000, 362436069)) {
		// What is left of whole turns first, since floats are short.
		sin, cos := math.Sincos(float64(a%(4*quarter)) / float64(2*quarter) * math.Pi)
		if s := float64(angles.Sin(a)); math.Abs(s-sin*float64(one)) > 0.500001 {
			t.Errorf("Sin(%d): %v, not %v", a, s, sin*float64(one))
		}
		if c := float64(angles.Cos(a)); math.Abs(c-cos*float64(one)) > 0.500001 {
			t.Errorf("Cos(%d): %v, not %v", a, c, cos*float64(one))
		}
	}
}

// P5.1: at each whole quarter that is a fix, and just beside, of either sign.
func TestSinCosAtQuarters(t *testing.T) {
	sines := [4]api.Fix{0, one, 0, -one}
	for k := api.Fix(-364); k <= 364; k++ {
		sin, cos := sines[k&3], sines[(k+1)&3]
		a := k * quarter
		for _, more := range []api.Fix{0, 1, -1, 28, -28} {
			checkSines(t, []sineCase{{a + more, sin, cos}})
		}
		// From the 29th neighbour on what was 0 is no more.
		checkSines(t, []sineCase{{a + 29, sin + cos/one, cos - sin/one}, {a - 29, sin - cos/one, cos + sin/one}})
	}
}

// P5.1: the edges written out: where the greatest sine and cosine end, about the quarters, and the ends of what is a fix.
func TestSinCosAtEdges(t *testing.T) {
	checkSines(t, []sineCase{
		{0, 0, one}, {1, 0, one}, {-1, 0, one}, {29, 1, one}, {-29, -1, one},
		{14667, 256, one}, {14668, 256, 65535}, {-14667, -256, one}, {-14668, -256, 65535},
		{quarter - 14667, one, 256}, {quarter - 14668, 65535, 256},
		{quarter - 1, one, 0}, {quarter, one, 0}, {quarter + 1, one, 0}, {quarter + 29, one, -1},
		{2*quarter - 29, 1, -one}, {2 * quarter, 0, -one}, {2*quarter + 29, -1, -one},
		{3*quarter - 29, -one, -1}, {3 * quarter, -one, 0}, {3*quarter + 29, -one, 1},
		{4*quarter - 29, -1, one}, {4 * quarter, 0, one},
		{-quarter, -one, 0}, {-2 * quarter, 0, -one}, {-3 * quarter, one, 0}, {-4 * quarter, 0, one},
		{most, 9121, 64898}, {most - 1, 9121, 64898}, {least, -9121, 64898}, {least + 1, -9121, 64898},
	})
}

// P5.1: ordinary angles, written out, in each quarter.
func TestSinCosOfPlainAngles(t *testing.T) {
	for _, c := range []sineCase{
		{one, 1144, 65526}, {15 * one, 16962, 63303}, {30 * one, 32768, 56756}, {45 * one, 46341, 46341},
		{57 * one, 54963, 35693}, {60 * one, 56756, 32768}, {75 * one, 63303, 16962},
	} {
		checkSines(t, []sineCase{
			c, {quarter + c.a, c.cos, -c.sin}, {2*quarter + c.a, -c.sin, -c.cos}, {3*quarter + c.a, -c.cos, c.sin},
			{-c.a, -c.sin, c.cos}, {c.a - 360*one, c.sin, c.cos}, {c.a + 32400*one, c.sin, c.cos},
		})
	}
}

// P5.1: where fewer than 40 bits behind the point would be seen in the answer.
func TestSinCosToTheLastBit(t *testing.T) {
	checkSines(t, []sineCase{
		{4937217, 63401, 16590}, {3538207, 53012, 38531}, {5368475, 64885, 9215}, {860150, 14882, 63824}, {2411860, 39260, 52475},
		{4937217 - 4*quarter, 63401, 16590}, {4937217 + quarter, 16590, -63401},
	})
}

// P5.2: Atan.
func TestAtan(t *testing.T) {
	t.Parallel()
	ys, xs := strewn(6000, 521288629), strewn(6000, 123456789)
	for i, y := range ys {
		checkAtan(t, y, xs[i])
		checkAtan(t, y, xs[i]>>16)
	}
	for y := api.Fix(-12); y <= 12; y++ {
		for x := api.Fix(-12); x <= 12; x++ {
			checkAtan(t, y, x)
		}
	}
	for i, y := range someFixes() {
		for j, x := range someFixes() {
			// A fifth for each, another one for the next.
			if (i+j)%5 == 0 {
				checkAtan(t, y, x)
			}
		}
	}
}

// P5.2: Atan, as against that of floats: the words of the document and that are one.
func TestAtanAgainstFloats(t *testing.T) {
	t.Parallel()
	ys, xs := strewn(6000, 2463534242), strewn(6000, 88172645463325252)
	for i, y := range ys {
		if y == 0 && xs[i] == 0 {
			continue
		}
		want := math.Atan2(float64(y), float64(xs[i])) / math.Pi * float64(2*quarter)
		off := math.Mod(float64(atan(t, y, xs[i]))-want+float64(4*quarter), float64(4*quarter))
		// Around the circle: what is off by nearly a turn is near.
		if min(off, float64(4*quarter)-off) > 0.5001 {
			t.Errorf("Atan(%d, %d): off %v", y, xs[i], off)
		}
	}
}

// P5.2: on each of the four half lines, however far out.
func TestAtanOnHalfLines(t *testing.T) {
	for _, n := range slices.Concat(someFixes(), strewn(200, 2463534242)) {
		switch {
		case n > 0:
			checkAtans(t, []atanCase{{0, n, 0}, {n, 0, quarter}})
		case n < 0:
			checkAtans(t, []atanCase{{0, n, 2 * quarter}, {n, 0, 3 * quarter}})
		}
	}
}

// P5.2: just beside the half lines, as near as is seen, and nearer; at the end of the fourth quarter the answer would be 360.
func TestAtanBesideHalfLines(t *testing.T) {
	const seen, hidden = 7509852, 7509853
	// Shares are floored: so from below a half line is reached later.
	const seenBelow, hiddenBelow = 7509933, 7509934
	checkAtans(t, []atanCase{
		{1, seen, 1}, {1, hidden, 0}, {1, most, 0},
		{seenBelow, 1, quarter - 1}, {hiddenBelow, 1, quarter}, {most, 1, quarter},
		{seen, -1, quarter + 1}, {hidden, -1, quarter}, {most, -1, quarter},
		{1, -seenBelow, 2*quarter - 1}, {1, -hiddenBelow, 2 * quarter}, {1, least, 2 * quarter},
		{-1, -seen, 2*quarter + 1}, {-1, -hidden, 2 * quarter}, {-1, least, 2 * quarter},
		{-seenBelow, -1, 3*quarter - 1}, {-hiddenBelow, -1, 3 * quarter}, {least, -1, 3 * quarter},
		{-seen, 1, 3*quarter + 1}, {-hidden, 1, 3 * quarter}, {least, 1, 3 * quarter},
		{-1, seenBelow, 4*quarter - 1}, {-1, hiddenBelow, 0}, {-1, most - 1, 0}, {-1, most, 0},
		{-2, 2 * seenBelow, 4*quarter - 1}, {-2, 2 * hiddenBelow, 0}, {-200, most, 0},
	})
}

// P5.2: directions midway between the half lines, and the ends of what is a fix.
func TestAtanAtCorners(t *testing.T) {
	eighth := quarter / 2
	checkAtans(t, []atanCase{
		{1, 1, eighth}, {1, -1, 3 * eighth}, {-1, -1, 5 * eighth}, {-1, 1, 7 * eighth},
		{most, most, eighth}, {least, least, 5 * eighth}, {least, most, 7 * eighth}, {most, least, 3 * eighth},
		{least, least + 1, 5 * eighth}, {least + 1, least, 5 * eighth}, {most - 1, most, eighth}, {most, most - 1, eighth},
		{least, 1 << 30, 19435687}, {1 << 30, least, 10055513},
	})
}

// P5.2: ordinary places, written out, in each quarter.
func TestAtanOfPlainPlaces(t *testing.T) {
	checkAtans(t, []atanCase{
		{1, 2, 1740967}, {2, 1, 4157273}, {-1, 2, 21851993}, {1, 3, 1208153},
		{3, 4, 2416306}, {4, 3, 3481934}, {-3, 4, 21176654},
		{1, 100, 37548}, {100, -1, 5935788}, {1, -100, 11758932}, {-1, -100, 11834028}, {-100, -1, 17657172}, {-100, 1, 17732268},
		{3 * one, 4 * one, 2416306}, {-3 * one, 4 * one, 21176654},
	})
}

// lastBits: places where one small part, or one bit of a share, more or less would be seen in the answer.
func lastBits() []atanCase {
	return []atanCase{
		// The C(i) are floored, not the nearest.
		{1386373928, 1395139763, 2937286}, {147249969, 36068977, 4996226}, {200688983, 1719423055, 436297}, {624406541, 307724484, 4178882},
		// Half of 1 and a C(i) is exact ahead of its root.
		{244282055, 49077677, 5153763}, {1975538611, 1690764150, 3240194}, {1027973921, 1034309460, 2937585}, {590939145, 2061329342, 1048345},
		// The S(i) are floored, not the nearest.
		{4107351, 70589746, 218240}, {89273353, 527062910, 630028}, {396471656, 2005211199, 732975}, {1266541303, 1937237123, 2174233},
		// What is turned is floored, not the nearest.
		{1887351, 574043746, 12345}, {7568083, 246405777, 115292}, {60969861, 1985090012, 115292}, {122194808, 2100064119, 218239},
		// Nor cut towards 0.
		{42710768, 376517239, 424133}, {99949789, 350949853, 1041815}, {882639379, 2005848417, 1556550}, {257897854, 313305607, 2586020},
		// Both products are exact ahead of that.
		{1946647, 592078811, 12345}, {9726935, 113438453, 321186}, {242696937, 2139497483, 424133}, {145325865, 857992567, 630027},
		// The greater number stays below 2^61, not below 2^62; nor is it stopped below 2^60.
		{56396281, 399126426, 527080}, {109218322, 267895537, 1453604}, {156211494, 225203101, 2277180}, {59296, 18035065, 12346},
		// A second number of 0 is turned.
		{1917387559, 2085053143, 2791915}, {753624457, 555677524, 3512544}, {1596342538, 758235239, 4233173}, {84636614, 306537747, 1011555},
		// A share has 40 bits, no more and no fewer.
		{8691, 2643395, 12345}, {3081629, 52961485, 218239}, {181455, 2116183, 321187}, {1025722, 17628261, 218240}, {1430, 434939, 12346},
	}
}

// P5.2: to the last bit, in each quarter.
func TestAtanToTheLastBit(t *testing.T) {
	for _, c := range lastBits() {
		checkAtans(t, []atanCase{c, {c.x, -c.y, c.want + quarter}, {-c.y, -c.x, c.want + 2*quarter}, {-c.x, c.y, c.want + 3*quarter}})
		checkAtan(t, c.y, c.x)
		checkAtan(t, c.x, c.y)
	}
}

// P5.2: wrong inputs: the direction of 0, 0.
func TestAtanOfNought(t *testing.T) {
	if a, e := angles.Atan(0, 0); a != 0 || e != api.ErrZero {
		t.Errorf("Atan(0, 0): %d, %v, not ErrZero", a, e)
	}
}

// The document's examples. (P5.1, P5.2)
func TestExamples(t *testing.T) {
	for _, c := range []struct {
		call      string
		got, want api.Fix
	}{
		{"Sin(0)", angles.Sin(0), 0}, {"Sin(90)", angles.Sin(90 * 65536), 65536}, {"Sin(30)", angles.Sin(30 * 65536), 32768},
		{"Cos(60)", angles.Cos(60 * 65536), 32768}, {"Cos(180)", angles.Cos(180 * 65536), -65536}, {"Sin(-90)", angles.Sin(-90 * 65536), -65536},
	} {
		if c.got != c.want {
			t.Errorf("%s: %d, not %d", c.call, c.got, c.want)
		}
	}
	checkAtans(t, []atanCase{{0, 5, 0}, {1, 0, 90 * 65536}, {1, 1, 45 * 65536}, {0, -1, 180 * 65536}, {-1, 0, 270 * 65536}})
}
