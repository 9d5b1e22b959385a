package powers_test

import (
	"slices"
	"testing"

	"gouache/api"
	"gouache/powers"
)

func checkExp2(t *testing.T, x api.Fix) {
	t.Helper()
	if y, want := powers.Exp2(x), wantExp2(x); y != want {
		t.Errorf("Exp2(%d): %d, not %d", x, y, want)
	}
}

func checkLog2(t *testing.T, x api.Fix) {
	t.Helper()
	y, e := powers.Log2(x)
	if want, f := wantLog2(x); y != want || e != f {
		t.Errorf("Log2(%d): %d, %v, not %d, %v", x, y, e, want, f)
	}
}

func checkPow(t *testing.T, a, n api.Fix) {
	t.Helper()
	p, e := powers.Pow(a, n)
	if want, f := wantPow(a, n); p != want || e != f {
		t.Errorf("Pow(%d, %d): %d, %v, not %d, %v", a, n, p, e, want, f)
	}
}

// P4.1: Exp2.
func TestExp2(t *testing.T) {
	for _, x := range slices.Concat(someFixes(), strewn(2000, 88172645463325252)) {
		checkExp2(t, x)
	}
	// From what is 0 up to what is held, each bit behind the point among them.
	for x := -19 * one; x < 16*one; x += 211 {
		checkExp2(t, x)
	}
}

// P4.1: Exp2, the edges written out: where it becomes 0, where it is held, halves that are told above.
func TestExp2AtEdges(t *testing.T) {
	for _, c := range []struct{ x, want api.Fix }{
		{0, one}, {1, 65537}, {-1, 65535}, {one, 2 * one}, {-one, one / 2},
		{one / 2, 92682}, {-one / 2, 46341}, {one / 4, 77936}, {3 * one / 4, 110218},
		{-16 * one, 1}, {-16*one - 1, 1}, {-16*one + 1, 1}, {-15 * one, 2},
		{-17*one + 1, 1}, {-17 * one, 1}, {-17*one - 1, 0}, {-18 * one, 0}, {-19 * one, 0}, {least + 1, 0}, {least, 0},
		{14 * one, 1 << 30}, {15*one - 1, 2147460935}, {15 * one, most}, {15*one + 1, most}, {16 * one, most}, {most, most},
	} {
		if y := powers.Exp2(c.x); y != c.want {
			t.Errorf("Exp2(%d): %d, not %d", c.x, y, c.want)
		}
	}
}

// P4.2: Log2; nothing but ErrArg of what is not above 0.
func TestLog2(t *testing.T) {
	for _, x := range slices.Concat(someFixes(), strewn(4000, 362436069)) {
		checkLog2(t, x)
	}
	for x := range api.Fix(4000) {
		checkLog2(t, x)
	}
}

// P4.2: Log2, the edges written out.
func TestLog2AtEdges(t *testing.T) {
	for _, c := range []struct{ x, want api.Fix }{
		{1, -16 * one}, {2, -15 * one}, {3, -944704}, {4, -14 * one},
		{one - 1, -1}, {one, 0}, {one + 1, 1}, {one + 2, 3},
		{one / 2, -one}, {2 * one, one}, {3 * one, 103872}, {10 * one, 217706},
		{1<<30 - 1, 14 * one}, {1 << 30, 14 * one}, {1<<30 + 1, 14 * one}, {most - 1, 15 * one}, {most, 15 * one},
	} {
		if y, e := powers.Log2(c.x); y != c.want || e != api.OK {
			t.Errorf("Log2(%d): %d, %v, not %d", c.x, y, e, c.want)
		}
	}
}

// P4.2: long logs midway between two fixes, and one bit below that.
func TestLog2Midway(t *testing.T) {
	for _, c := range []struct{ x, want api.Fix }{
		{59244075, 643575}, {72925053, 663219}, {92513313, 685714},
		{105003807, 697687}, {105156067, 697824}, {110378801, 702407},
	} {
		if y, e := powers.Log2(c.x); y != c.want || e != api.OK {
			t.Errorf("Log2(%d): %d, %v, not %d", c.x, y, e, c.want)
		}
		checkLog2(t, c.x)
	}
}

// P4.2: wrong inputs: 0, and what is below.
func TestLog2NotAboveNought(t *testing.T) {
	for _, x := range []api.Fix{0, -1, -2, -one + 1, -one, -one - 1, least + 1, least} {
		if y, e := powers.Log2(x); y != 0 || e != api.ErrArg {
			t.Errorf("Log2(%d): %d, %v, not ErrArg", x, y, e)
		}
	}
}

// P4.3: Pow, of each of some numbers to the power of each.
func TestPow(t *testing.T) {
	all := someFixes()
	for i, a := range all {
		for j, n := range all {
			// All whole powers, and of the others a third for each number, another one for the next.
			if n%one == 0 || (i+j)%3 == 0 {
				checkPow(t, a, n)
			}
		}
	}
}

// P4.3: Pow in no order, most of it not held: greater numbers to lesser powers.
func TestPowInNoOrder(t *testing.T) {
	as, ns := strewn(6000, 521288629), strewn(6000, 123456789)
	for i, a := range as {
		checkPow(t, a, ns[i])
		checkPow(t, a, ns[i]%(2*one))
		checkPow(t, a, ns[i]/one*one%(4*one))
		checkPow(t, one+a%2048, ns[i])
	}
}

type powCase struct{ a, n, want api.Fix }

func checkPows(t *testing.T, all []powCase) {
	t.Helper()
	for _, c := range all {
		if p, e := powers.Pow(c.a, c.n); p != c.want || e != api.OK {
			t.Errorf("Pow(%d, %d): %d, %v, not %d", c.a, c.n, p, e, c.want)
		}
	}
}

// P4.3: powers of 0, of 1, of -1, of one half, and to the power of 0.
func TestPowOfPlainNumbers(t *testing.T) {
	for _, n := range slices.Concat(someFixes(), []api.Fix{7 * one, -32767 * one, 32767 * one}) {
		checkPows(t, []powCase{{n, 0, one}, {one, n, one}})
		if n > 0 {
			checkPows(t, []powCase{{0, n, 0}})
		}
		if n%one == 0 {
			sign := one
			if n/one%2 != 0 {
				sign = -one
			}
			checkPows(t, []powCase{{-one, n, sign}})
		}
		// The least fix taken away of 0 is none: the greatest one, as a power of 2, is held like it.
		checkPows(t, []powCase{{one / 2, n, powers.Exp2(-max(n, -most))}, {2 * one, n, powers.Exp2(n)}})
	}
}

// P4.3: of what is above 0, the edges written out.
func TestPowAboveNought(t *testing.T) {
	checkPows(t, []powCase{
		{3 * one, 2 * one, 9 * one}, {10 * one, 4 * one, 10000 * one}, {10 * one, 5 * one, most}, {3 * one, -2 * one, 7282},
		{2 * one, one / 2, 92682}, {one / 4, one / 2, one / 2}, {9 * one, one / 2, 3 * one}, {8 * one, one / 3, 131071},
		{one, most, one}, {one, least, one}, {one + 1, most, 108050}, {one + 1, least, 39750}, {one - 1, most, 39749}, {one - 1, least, 108051},
		{most, one, most}, {most, 1, 65546}, {most, -one, 2}, {most, most, most}, {most, least, 0},
		{1, one, 1}, {1, -one, most}, {1, 2 * one, 0}, {1, 1, 65525}, {1, most, 0}, {1, least, most},
		{2 * one, -17 * one, 1}, {2 * one, -17*one - 1, 0}, {2 * one, -18 * one, 0}, {2 * one, 15*one - 1, 2147460935}, {2 * one, 15 * one, most},
	})
}

// P4.3: of what is below 0: the sign is that of an odd power, and put on behind the rounding and ahead of being held.
func TestPowBelowNought(t *testing.T) {
	checkPows(t, []powCase{
		{-2 * one, 3 * one, -8 * one}, {-2 * one, 2 * one, 4 * one}, {-2 * one, -one, -32768}, {-2 * one, -2 * one, 16384},
		{-5, 0, one}, {least, 0, one},
		{least, one, least}, {least, 2 * one, most}, {least, 3 * one, least}, {least, -one, -2}, {least, -2 * one, 0},
		{-2 * one, 15 * one, least}, {-2 * one, 16 * one, most}, {-2 * one, 17 * one, least},
		{-200 * one, 3 * one, least}, {-200 * one, 2 * one, most},
		{-1, one, -1}, {-1, 2 * one, 0}, {-1, 3 * one, 0}, {-1, -one, least}, {-1, -2 * one, most},
		// The nearest of half a 65536th is 1; taken away of 0 that is -1.
		{-2 * one, -17 * one, -1}, {-one / 2, 17 * one, -1}, {-2 * one, -19 * one, 0}, {-one / 2, 19 * one, 0},
	})
}

// P4.3: where one small part, or one bit of a long log, more or less would be seen in the answer.
func TestPowToTheLastBit(t *testing.T) {
	all := []powCase{
		// The T(i), and the products of them, are floored, not the nearest.
		{1116332288, 65543, 1117494615}, {1118089294, 65539, 1118588150}, {1293240241, 65542, 1294411751},
		{1697603634, 65538, 1698130182}, {1128609967, 65537, 1128777953}, {2144063011, 65539, 2145083556},
		// Squares on the way to a long log are floored, not the nearest, and to 2^-62s, not to longer ones.
		{1096601677, 68465, 1693607799}, {1096601677, 66138, 1199073286}, {1106586016, 68821, 1802558608}, {1106586016, 68018, 1599891701},
		// Nor to shorter ones.
		{1117827341, 65000, 1032198643}, {1117827341, 64855, 1010183134}, {1133839566, 68107, 1662695147}, {1133839566, 68058, 1650607845},
		// Halves likewise.
		{1196897850, 68287, 1806945306}, {1196897850, 66636, 1411192450}, {1267571715, 67179, 1623438068}, {1325516042, 68155, 1969975728},
		// Of a product that lies midway between two numbers with 32 bits behind the point the upper one is the nearest.
		{11739402, 131072, 2102868032}, {11333961, 131072, 1960123779}, {66509882, 98304, 2118796763}, {1905725, 196608, 1611464834},
	}
	checkPows(t, all)
	for _, c := range all {
		checkPow(t, c.a, c.n)
	}
}

// P4.3: wrong inputs: a power below 0 of 0.
func TestPowBelowNoughtOfNought(t *testing.T) {
	for _, n := range []api.Fix{-1, -2, -one + 1, -one, -one - 1, -2 * one, least + 1, least} {
		if p, e := powers.Pow(0, n); p != 0 || e != api.ErrZero {
			t.Errorf("Pow(0, %d): %d, %v, not ErrZero", n, p, e)
		}
	}
}

// P4.3: wrong inputs: a power that is not whole of what is below 0.
func TestPowNotWholeBelowNought(t *testing.T) {
	for _, a := range []api.Fix{-1, -2, -one / 2, -one, -one - 1, -2 * one, least + 1, least} {
		for _, n := range []api.Fix{1, -1, one / 2, -one / 2, one - 1, one + 1, -one - 1, -one + 1, 2*one + 1, 3*one - 1, most, least + 1} {
			if p, e := powers.Pow(a, n); p != 0 || e != api.ErrArg {
				t.Errorf("Pow(%d, %d): %d, %v, not ErrArg", a, n, p, e)
			}
		}
	}
}

// The document's examples. (P4.1, P4.2, P4.3)
func TestExamples(t *testing.T) {
	for _, c := range []struct{ x, want api.Fix }{
		{0, 65536}, {65536, 131072}, {-16 * 65536, 1}, {-17 * 65536, 1}, {-18 * 65536, 0}, {15 * 65536, 1<<31 - 1}, {32768, 92682},
	} {
		if y := powers.Exp2(c.x); y != c.want {
			t.Errorf("Exp2(%d): %d, not %d", c.x, y, c.want)
		}
	}
	for _, c := range []struct {
		x, want api.Fix
		e       api.Errno
	}{{65536, 0, api.OK}, {1, -16 * 65536, api.OK}, {131072, 65536, api.OK}, {0, 0, api.ErrArg}} {
		if y, e := powers.Log2(c.x); y != c.want || e != c.e {
			t.Errorf("Log2(%d): %d, %v, not %d, %v", c.x, y, e, c.want, c.e)
		}
	}
	for _, c := range []struct {
		a, n, want api.Fix
		e          api.Errno
	}{
		{3 * 65536, 2 * 65536, 9 * 65536, api.OK}, {-2 * 65536, 3 * 65536, -8 * 65536, api.OK},
		{-1, 1, 0, api.ErrArg}, {0, 0, 65536, api.OK}, {0, -1, 0, api.ErrZero},
	} {
		if p, e := powers.Pow(c.a, c.n); p != c.want || e != c.e {
			t.Errorf("Pow(%d, %d): %d, %v, not %d, %v", c.a, c.n, p, e, c.want, c.e)
		}
	}
}
