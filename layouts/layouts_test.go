package layouts_test

import (
	"math"
	"testing"

	"gouache/api"
	"gouache/layouts"
)

// P8.1, P8.2: all bits and numbers of colours that may be, with each flag.
func TestEachLayoutThatMayBe(t *testing.T) {
	eachLayout(func(l api.Layout) {
		if e := layouts.Check(l); e != api.OK {
			t.Errorf("Check(%+v): %v, not OK", l, e)
		}
		for flag := range 256 {
			checkSize(t, l, uint8(flag))
		}
	})
}

// P8.1, P8.2: each field alone, with numbers of all kinds.
func TestEachFieldAlone(t *testing.T) {
	numbers := manyNumbers()
	for kind := 4; kind <= 7; kind++ {
		for _, f := range fields {
			for _, n := range numbers {
				l := f.with(plain(kind), n)
				check(t, l)
				for _, flag := range someFlags {
					checkSize(t, l, flag)
				}
			}
		}
	}
}

// P8.1: the types, one less and one more.
func TestTypes(t *testing.T) {
	for _, kind := range []int{4, 5, 6, 7} {
		checkRight(t, plain(kind))
	}
	for _, kind := range []int{3, 8, 0, 1, 2, 9, -4, -5, -6, -7, math.MinInt, math.MaxInt} {
		checkWrong(t, plain(kind))
	}
}

// P8.1: the bits of each kind of number: those that may be, one less, one more, and those between.
func TestBits(t *testing.T) {
	for kind := 4; kind <= 7; kind++ {
		for _, n := range []int{1, 2, 4, 8, 12, 16, 24, 32} {
			checkRight(t, api.Layout{Type: kind, Coord: n, Comp: 1, Flag: 2, Comps: 1, Row: 2})
		}
		for _, n := range []int{0, 3, 5, 6, 7, 9, 10, 11, 13, 14, 15, 17, 20, 23, 25, 28, 31, 33} {
			checkWrong(t, api.Layout{Type: kind, Coord: n, Comp: 1, Flag: 2, Comps: 1, Row: 2})
		}
		for _, n := range []int{1, 2, 4, 8, 12, 16} {
			checkRight(t, api.Layout{Type: kind, Coord: 1, Comp: n, Flag: 2, Comps: 1, Row: 2})
		}
		for _, n := range []int{0, 3, 5, 6, 7, 9, 10, 11, 13, 14, 15, 17, 24, 32} {
			checkWrong(t, api.Layout{Type: kind, Coord: 1, Comp: n, Flag: 2, Comps: 1, Row: 2})
		}
	}
}

// P8.1: the flag's bits, of types 4, 6 and 7.
func TestBitsOfFlags(t *testing.T) {
	for _, kind := range []int{4, 6, 7} {
		for _, n := range []int{2, 4, 8} {
			checkRight(t, api.Layout{Type: kind, Coord: 1, Comp: 1, Flag: n, Comps: 1})
		}
		for _, n := range []int{0, 1, 3, 5, 6, 7, 9, 12, 16, 24, 32} {
			checkWrong(t, api.Layout{Type: kind, Coord: 1, Comp: 1, Flag: n, Comps: 1})
		}
	}
}

// P8.1, P8.2: of type 5 Flag may be anything, and none of it stands in a record.
func TestRowsHaveNoFlags(t *testing.T) {
	l := plain(5)
	for _, n := range manyNumbers() {
		l.Flag = n
		for _, flag := range someFlags {
			if size := layouts.Size(l, flag); size != 3 || layouts.Check(l) != api.OK {
				t.Errorf("type 5, Flag %d: %v, %d bytes", n, layouts.Check(l), size)
			}
		}
	}
}

// P8.1: as many colours as may be, and one more.
func TestNumbersOfColours(t *testing.T) {
	for kind := 4; kind <= 7; kind++ {
		l := plain(kind)
		for _, n := range []int{1, 2, 3, api.MaxComps} {
			l.Comps = n
			checkRight(t, l)
		}
		for _, n := range []int{0, -1, -4, api.MaxComps + 1, 8, 16} {
			l.Comps = n
			checkWrong(t, l)
		}
	}
}

// P8.1: of type 5 a row has two vertices at least; the other types have no rows.
func TestRows(t *testing.T) {
	few := []int{1, 0, -1, -2, 2 - 32, 2 - 256, math.MinInt32, math.MinInt + 2, math.MinInt}
	many := []int{2, 3, 32, 256, 1 << 30, math.MaxInt32, math.MaxInt}
	for _, step := range farSteps() {
		few, many = append(few, 2-step, -step), append(many, step, step+1)
	}
	for kind := 4; kind <= 7; kind++ {
		for _, n := range few {
			l := plain(kind)
			l.Row = n
			if kind == 5 {
				checkWrong(t, l)
			} else {
				checkRight(t, l)
			}
		}
		for _, n := range many {
			l := plain(kind)
			l.Row = n
			checkRight(t, l)
		}
	}
}

// P8.1, P8.2: numbers that have the lowest bits of one that may be, but are not it.
func TestNumbersFarOff(t *testing.T) {
	may := map[string][]int{"Type": {4, 5, 6, 7}, "Coord": coordBits, "Comp": compBits, "Flag": flagBits, "Comps": {1, 2, 3, 4}}
	for kind := 4; kind <= 7; kind++ {
		for _, f := range fields {
			if f.name == "Flag" && kind == 5 {
				continue
			}
			for _, n := range may[f.name] {
				for _, step := range farSteps() {
					checkWrong(t, f.with(plain(kind), n+step))
					checkWrong(t, f.with(plain(kind), n-step))
				}
				checkWrong(t, f.with(plain(kind), n+math.MinInt))
			}
		}
	}
}

// P8.1, P8.2: a layout that may not be, for one field alone, whatever the others are.
func TestOneFieldWrong(t *testing.T) {
	wrong := map[string][]int{"Type": {0, 3, 8}, "Coord": {0, 3, 33}, "Comp": {0, 3, 24}, "Flag": {0, 1, 16}, "Comps": {0, 5, -1}, "Row": {1, 0, -2}}
	eachLayout(func(l api.Layout) {
		for _, f := range fields {
			if f.name == "Flag" && l.Type == 5 || f.name == "Row" && l.Type != 5 {
				continue
			}
			for _, n := range wrong[f.name] {
				checkWrong(t, f.with(l, n))
			}
		}
	})
}

// P8.1, P8.2: several fields are wrong.
func TestManyFieldsWrong(t *testing.T) {
	checkWrong(t, api.Layout{})
	for _, n := range []int{0, -1, math.MinInt, math.MaxInt} {
		checkWrong(t, api.Layout{Type: n, Coord: n, Comp: n, Flag: n, Comps: n, Row: n})
		for kind := 4; kind <= 7; kind++ {
			checkWrong(t, api.Layout{Type: kind, Coord: n, Comp: n, Flag: n, Comps: n, Row: n})
		}
	}
}

// P8.1, P8.2: of ranges nothing is asked.
func TestRangesOfAllKinds(t *testing.T) {
	for kind := 3; kind <= 8; kind++ {
		for _, r := range []api.Range{{}, {Lo: 7, Hi: 7}, {Lo: 1, Hi: 0}, {Lo: math.MinInt32, Hi: math.MaxInt32}, {Lo: math.MaxInt32, Hi: math.MinInt32}} {
			bare := plain(kind)
			x, y, c, all := bare, bare, bare, bare
			x.X, y.Y, all.X, all.Y = r, r, r, r
			for i := range c.C {
				c.C[i], all.C[i] = r, r
			}
			for _, l := range []api.Layout{x, y, c, all} {
				if layouts.Check(l) != layouts.Check(bare) || layouts.Size(l, 0) != layouts.Size(bare, 0) || layouts.Size(l, 1) != layouts.Size(bare, 1) {
					t.Errorf("ranges %v of type %d: %v, %d, %d", r, kind, layouts.Check(l), layouts.Size(l, 0), layouts.Size(l, 1))
				}
			}
		}
	}
}
