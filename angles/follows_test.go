package angles_test

import (
	"slices"
	"testing"

	"gouache/angles"
	"gouache/api"
)

func atan(t *testing.T, y, x api.Fix) api.Fix {
	t.Helper()
	a, e := angles.Atan(y, x)
	if e != api.OK {
		t.Errorf("Atan(%d, %d): %v", y, x, e)
	}
	if a < 0 || a >= 4*quarter {
		t.Errorf("Atan(%d, %d): %d is no direction", y, x, a)
	}
	return a
}

// apart: how far one direction is from another, the shorter way around.
func apart(a, b api.Fix) api.Fix {
	d := max(a-b, b-a)
	return min(d, 4*quarter-d)
}

// firstQuarter: angles from 0 to 90, rising: some of all, and the neighbours of those where one bit behind the point gives way to the next.
func firstQuarter() []api.Fix {
	var out []api.Fix
	for a := api.Fix(0); a < quarter; a += 331 {
		out = append(out, a)
	}
	for k := range api.Fix(513) {
		at := api.Fix(int64(quarter) * int64(k) / 512)
		for more := api.Fix(-2); more <= 2; more++ {
			out = append(out, min(max(at+more, 0), quarter))
		}
	}
	for a := range api.Fix(500) {
		out = append(out, a, quarter-a)
	}
	slices.Sort(out)
	return slices.Compact(out)
}

// P5.3: at whole quarters all is exact.
func TestQuartersAreExact(t *testing.T) {
	sines := [4]api.Fix{0, one, 0, -one}
	for k := api.Fix(-364); k <= 364; k++ {
		s, c := angles.Sin(k*quarter), angles.Cos(k*quarter)
		if s != sines[k&3] || c != sines[(k+1)&3] {
			t.Errorf("Sin, Cos of %d quarters: %d, %d", k, s, c)
		}
		if a := atan(t, s, c); a != (k&3)*quarter {
			t.Errorf("Atan(%d, %d): %d, not %d", s, c, a, (k&3)*quarter)
		}
	}
}

// P5.3: a quarter more turns cosine into the sine's negative, sine into cosine.
func TestSinesAQuarterOn(t *testing.T) {
	t.Parallel()
	for _, a := range slices.Concat(someFixes(), strewn(4000, 521288629)) {
		if a > most-quarter {
			a -= quarter
		}
		if c, s := angles.Cos(a+quarter), angles.Sin(a); c != -s {
			t.Errorf("Cos(%d): %d, a quarter below Sin: %d", a+quarter, c, s)
		}
		if s, c := angles.Sin(a+quarter), angles.Cos(a); s != c {
			t.Errorf("Sin(%d): %d, a quarter below Cos: %d", a+quarter, s, c)
		}
	}
}

// P5.3: a direction a quarter on is 90 more.
func TestDirectionsAQuarterOn(t *testing.T) {
	t.Parallel()
	ys, xs := strewn(4000, 123456789), strewn(4000, 362436069)
	for i, y := range ys {
		x := xs[i]
		if x == 0 && y == 0 || y == least {
			continue
		}
		if a, b := atan(t, y, x), atan(t, x, -y); b != (a+quarter)%(4*quarter) {
			t.Errorf("Atan(%d, %d): %d, a quarter on: %d", y, x, a, b)
		}
	}
	for _, c := range lastBits() {
		if a, b := atan(t, c.y, c.x), atan(t, c.x, -c.y); b != a+quarter {
			t.Errorf("Atan(%d, %d): %d, a quarter on: %d", c.y, c.x, a, b)
		}
	}
}

// P5.3: sines never fall from 0 to 90; both squares together are 1, but for 92683 of 2^-32s; sine and cosine lead Atan back, but for 41 65536ths.
func TestFirstQuarter(t *testing.T) {
	t.Parallel()
	before := api.Fix(0)
	for _, a := range firstQuarter() {
		s, c := angles.Sin(a), angles.Cos(a)
		if s < before {
			t.Errorf("Sin falls at %d: from %d to %d", a, before, s)
		}
		before = s
		squares := int64(s)*int64(s) + int64(c)*int64(c) - 1<<32
		if max(squares, -squares) > 92683 {
			t.Errorf("Sin, Cos(%d): %d, %d: their squares are off by %d", a, s, c, squares)
		}
		if b := atan(t, s, c); apart(a, b) > 41 {
			t.Errorf("Atan of Sin, Cos(%d): %d", a, b)
		}
	}
}

// P5.3: the same of angles of all quarters, and far out.
func TestAllQuarters(t *testing.T) {
	t.Parallel()
	for _, a := range slices.Concat(someFixes(), strewn(4000, 2463534242)) {
		s, c := angles.Sin(a), angles.Cos(a)
		squares := int64(s)*int64(s) + int64(c)*int64(c) - 1<<32
		if max(squares, -squares) > 92683 {
			t.Errorf("Sin, Cos(%d): %d, %d: their squares are off by %d", a, s, c, squares)
		}
		around := (a%(4*quarter) + 4*quarter) % (4 * quarter)
		if b := atan(t, s, c); apart(around, b) > 41 {
			t.Errorf("Atan of Sin, Cos(%d): %d", a, b)
		}
	}
}

// P5.3: the sine of a sum is that of the rule, but for 125452 of 2^-32s.
func TestSineOfASum(t *testing.T) {
	t.Parallel()
	as, bs := strewn(5000, 88172645463325252), strewn(5000, 521288629)
	for i := range as {
		// Halved: so that the sum is a fix.
		a, b := as[i]/2, bs[i]/2
		rule := int64(angles.Sin(a))*int64(angles.Cos(b)) + int64(angles.Cos(a))*int64(angles.Sin(b))
		off := int64(angles.Sin(a+b))*int64(one) - rule
		if max(off, -off) > 125452 {
			t.Errorf("Sin(%d + %d) is off by %d", a, b, off)
		}
	}
}

// P5.3: x and y changed, both above 0, Atan's answers make 90 degrees, but for one 65536th.
func TestAtanChanged(t *testing.T) {
	t.Parallel()
	check := func(y, x api.Fix) {
		if sum := atan(t, y, x) + atan(t, x, y); apart(sum, quarter) > 1 {
			t.Errorf("Atan(%d, %d) and changed: %d", y, x, sum)
		}
	}
	ys, xs := strewn(4000, 362436069), strewn(4000, 2463534242)
	for i, y := range ys {
		// The least fix without its sign is none.
		check(max(y, -y, 1), max(xs[i], -xs[i], 1))
	}
	for _, c := range lastBits() {
		check(c.y, c.x)
	}
	for _, n := range []api.Fix{1, 2, 7509852, 7509853, 7509933, 7509934, most - 1, most} {
		check(1, n)
		check(n, most)
	}
}
