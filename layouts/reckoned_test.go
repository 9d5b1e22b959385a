package layouts_test

import (
	"math"
	"slices"
	"strconv"
	"testing"

	"gouache/api"
	"gouache/layouts"
)

// The document's own lists of bits.
var (
	coordBits = []int{1, 2, 4, 8, 12, 16, 24, 32}
	compBits  = []int{1, 2, 4, 8, 12, 16}
	flagBits  = []int{2, 4, 8}
)

// field of a layout that Check looks at, in some types at least.
type field struct {
	name string
	of   func(*api.Layout) *int
}

var fields = []field{
	{"Type", func(l *api.Layout) *int { return &l.Type }},
	{"Coord", func(l *api.Layout) *int { return &l.Coord }},
	{"Comp", func(l *api.Layout) *int { return &l.Comp }},
	{"Flag", func(l *api.Layout) *int { return &l.Flag }},
	{"Comps", func(l *api.Layout) *int { return &l.Comps }},
	{"Row", func(l *api.Layout) *int { return &l.Row }},
}

// with: the layout, with another number in the field.
func (f field) with(l api.Layout, n int) api.Layout {
	*f.of(&l) = n
	return l
}

// plain: of that type, all of whose fields may be.
func plain(kind int) api.Layout {
	return api.Layout{Type: kind, Coord: 8, Comp: 8, Flag: 8, Comps: 1, Row: 2}
}

// wantCheck: the document's 'may be', word by word.
func wantCheck(l api.Layout) api.Errno {
	if slices.Contains([]int{4, 5, 6, 7}, l.Type) &&
		slices.Contains(coordBits, l.Coord) &&
		slices.Contains(compBits, l.Comp) &&
		(l.Type == 5 || slices.Contains(flagBits, l.Flag)) &&
		slices.Contains([]int{1, 2, 3, 4}, l.Comps) &&
		(l.Type != 5 || l.Row >= 2) {
		return api.OK
	}
	return api.ErrForm
}

// pointsAndColours of a record, as the document tells them.
func pointsAndColours(kind int, flag uint8) (points, colours int) {
	switch {
	case kind == 6 && flag == 0:
		return 12, 4
	case kind == 7 && flag == 0:
		return 16, 4
	case kind == 6:
		return 8, 2
	case kind == 7:
		return 12, 2
	}
	return 1, 1
}

// wantBits of a record: those of each of its numbers, one behind the other.
func wantBits(l api.Layout, flag uint8) int {
	n := 0
	if l.Type != 5 {
		n = l.Flag
	}
	points, colours := pointsAndColours(l.Type, flag)
	for range points {
		n += l.Coord
		n += l.Coord
	}
	for range colours {
		for range l.Comps {
			n += l.Comp
		}
	}
	return n
}

// wantSize: P8.2, reckoned bit by bit.
func wantSize(l api.Layout, flag uint8) int {
	if wantCheck(l) != api.OK {
		return 0
	}
	n := wantBits(l, flag)
	for n%8 != 0 {
		n++
	}
	return n / 8
}

func check(t *testing.T, l api.Layout) {
	t.Helper()
	if got, want := layouts.Check(l), wantCheck(l); got != want {
		t.Errorf("Check(%+v): %v, not %v", l, got, want)
	}
}

func checkSize(t *testing.T, l api.Layout, flag uint8) {
	t.Helper()
	if got, want := layouts.Size(l, flag), wantSize(l, flag); got != want {
		t.Errorf("Size(%+v, %d): %d, not %d", l, flag, got, want)
	}
}

// checkWrong: the layout may not be, and has no records, whatever their flag.
func checkWrong(t *testing.T, l api.Layout) {
	t.Helper()
	if e := layouts.Check(l); e != api.ErrForm {
		t.Errorf("Check(%+v): %v, not ErrForm", l, e)
	}
	for _, flag := range someFlags {
		if n := layouts.Size(l, flag); n != 0 {
			t.Errorf("Size(%+v, %d): %d, not 0", l, flag, n)
		}
	}
}

// checkRight: the layout may be, and has records.
func checkRight(t *testing.T, l api.Layout) {
	t.Helper()
	if e := layouts.Check(l); e != api.OK {
		t.Errorf("Check(%+v): %v, not OK", l, e)
	}
	for _, flag := range someFlags {
		checkSize(t, l, flag)
	}
}

var someFlags = []uint8{0, 1, 2, 3, 4, 127, 128, 254, 255}

// eachLayout: each type with all bits and numbers of colours that may be.
func eachLayout(see func(api.Layout)) {
	for kind := 4; kind <= 7; kind++ {
		for _, coord := range coordBits {
			for _, comp := range compBits {
				for _, flag := range flagBits {
					for comps := 1; comps <= 4; comps++ {
						see(api.Layout{Type: kind, Coord: coord, Comp: comp, Flag: flag, Comps: comps, Row: 2})
					}
				}
			}
		}
	}
}

// farSteps: the powers of 2 from 32 on, as many as an int has.
func farSteps() []int {
	var out []int
	for shift := 5; shift < strconv.IntSize-1; shift++ {
		out = append(out, 1<<shift)
	}
	return out
}

// manyNumbers: those about nought, those that are a power of 2 away from one that may be, and the ends of an int.
func manyNumbers() []int {
	out := []int{math.MinInt, math.MinInt + 1, math.MaxInt - 1, math.MaxInt}
	for n := -300; n <= 600; n++ {
		out = append(out, n)
	}
	for _, step := range farSteps() {
		for n := range 34 {
			out = append(out, n+step, n-step)
		}
	}
	return out
}
