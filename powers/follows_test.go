package powers_test

import (
	"slices"
	"testing"

	"gouache/api"
	"gouache/fixeds"
	"gouache/powers"
)

// aboveNought: fixes of all sizes, none twice, from the least to the greatest.
func aboveNought() []api.Fix {
	out := slices.Concat(someFixes(), strewn(6000, 2463534242))
	out = slices.DeleteFunc(out, func(x api.Fix) bool { return x <= 0 })
	slices.Sort(out)
	return slices.Compact(out)
}

func log2(t *testing.T, x api.Fix) api.Fix {
	t.Helper()
	y, e := powers.Log2(x)
	if e != api.OK {
		t.Errorf("Log2(%d): %v", x, e)
	}
	return y
}

func pow(t *testing.T, a, n api.Fix) api.Fix {
	t.Helper()
	p, e := powers.Pow(a, n)
	if e != api.OK {
		t.Errorf("Pow(%d, %d): %v", a, n, e)
	}
	return p
}

func isHeld(x api.Fix) bool { return x == least || x == most }

func off(a, b api.Fix) int64 { return max(int64(a)-int64(b), int64(b)-int64(a)) }

// P4.4: powers of 2 are exact.
func TestPowersOfTwoAreExact(t *testing.T) {
	for k := api.Fix(-16); k <= 14; k++ {
		want := api.Fix(1) << (k + 16)
		if y := powers.Exp2(k * one); y != want {
			t.Errorf("Exp2(%d): %d, not %d", k*one, y, want)
		}
		if y := log2(t, want); y != k*one {
			t.Errorf("Log2(%d): %d, not %d", want, y, k*one)
		}
		// All whole powers of 2^k that are neither held nor too small.
		for n := api.Fix(-16); n <= 16; n++ {
			if n*k < -16 || n*k > 14 || n == 0 {
				continue
			}
			p := api.Fix(1) << (n*k + 16)
			if got := pow(t, want, n*one); got != p {
				t.Errorf("Pow(%d, %d): %d, not %d", want, n*one, got, p)
			}
			if n%2 != 0 {
				p = -p
			}
			if got := pow(t, -want, n*one); got != p {
				t.Errorf("Pow(%d, %d): %d, not %d", -want, n*one, got, p)
			}
		}
	}
}

// P4.4: so is a number to the power of 1.
func TestPowOfOneIsExact(t *testing.T) {
	for _, a := range slices.Concat(someFixes(), strewn(6000, 2463534242)) {
		if p := pow(t, a, one); p != a {
			t.Errorf("Pow(%d, 1): %d", a, p)
		}
	}
}

// P4.4: Exp2 never falls, nor does Log2.
func TestNeitherFalls(t *testing.T) {
	before := powers.Exp2(least)
	for x := -18 * one; x <= 15*one; x += 97 {
		now := powers.Exp2(x)
		if now < before {
			t.Errorf("Exp2 falls at %d: from %d to %d", x, before, now)
		}
		before = now
	}
	// About the whole ones one bit behind the point after the other gives way to the next.
	for k := api.Fix(-17); k < 15; k++ {
		for x := k*one - 40; x < k*one+40; x++ {
			if now, next := powers.Exp2(x), powers.Exp2(x+1); next < now {
				t.Errorf("Exp2 falls from %d to %d", x, x+1)
			}
		}
	}
	all := aboveNought()
	for i := 1; i < len(all); i++ {
		if log2(t, all[i]) < log2(t, all[i-1]) {
			t.Errorf("Log2 falls from %d to %d", all[i-1], all[i])
		}
	}
}

// P4.4: a number twice as great has a log of 1 more, just so.
func TestLogOfTwice(t *testing.T) {
	for _, x := range aboveNought() {
		if x > most/2 {
			break
		}
		if less, more := log2(t, x), log2(t, 2*x); more != less+one {
			t.Errorf("Log2(%d): %d, of twice it: %d", x, less, more)
		}
	}
}

// P4.4: Exp2 of Log2 of x is off by at most 3/8 of a 65536th of x, and 9/16 of one 65536th.
func TestExp2OfLog2(t *testing.T) {
	for _, x := range aboveNought() {
		y := powers.Exp2(log2(t, x))
		// Both sides 16 times 65536 times as great.
		if !isHeld(y) && off(x, y)*16*65536 > 6*int64(x)+9*65536 {
			t.Errorf("Exp2(Log2(%d)): %d", x, y)
		}
	}
}

// P4.4: Log2 of Exp2 of x, x being 0 or more, is off by at most one 65536th.
func TestLog2OfExp2(t *testing.T) {
	check := func(x api.Fix) {
		y := powers.Exp2(x)
		if !isHeld(y) && off(log2(t, y), x) > 1 {
			t.Errorf("Log2(Exp2(%d)): %d", x, log2(t, y))
		}
	}
	for x := api.Fix(0); x < 1000; x++ {
		check(x)
	}
	for x := api.Fix(1000); x < 15*one; x += 131 {
		check(x)
	}
}

// P4.4: Pow of 2 and Pow of -1 are off by at most one 65536th, as against the nearest square, and the nearest quotient.
func TestPowOfTwoAndOfMinusOne(t *testing.T) {
	for _, a := range slices.Concat(someFixes(), strewn(6000, 2463534242)) {
		if a == 0 {
			continue
		}
		square, p := fixeds.Mul(a, a), pow(t, a, 2*one)
		if !isHeld(square) && !isHeld(p) && off(square, p) > 1 {
			t.Errorf("Pow(%d, 2): %d, the nearest square: %d", a, p, square)
		}
		quotient, e := fixeds.Div(one, a)
		p = pow(t, a, -one)
		if e != api.OK || !isHeld(quotient) && !isHeld(p) && off(quotient, p) > 1 {
			t.Errorf("Pow(%d, -1): %d, the nearest quotient: %d, %v", a, p, quotient, e)
		}
	}
}
