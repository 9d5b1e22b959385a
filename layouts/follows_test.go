package layouts_test

import (
	"testing"

	"gouache/api"
	"gouache/layouts"
)

// P8.3: a record has at most 161 bytes, and one at least; there are such.
func TestLongestAndShortest(t *testing.T) {
	least, most := 1000, 0
	eachLayout(func(l api.Layout) {
		for flag := range 256 {
			n := layouts.Size(l, uint8(flag))
			if n < 1 || n > 161 {
				t.Errorf("Size(%+v, %d): %d", l, flag, n)
			}
			least, most = min(least, n), max(most, n)
		}
	})
	if least != 1 || most != 161 {
		t.Errorf("records of %d to %d bytes, not of 1 to 161", least, most)
	}
}

// P8.3: of types 6 and 7 those of another flag than 0 are shorter, and alike; of types 4 and 5 all are alike.
func TestFlagsAlike(t *testing.T) {
	eachLayout(func(l api.Layout) {
		first, next := layouts.Size(l, 0), layouts.Size(l, 1)
		if l.Type >= 6 && next >= first || l.Type <= 5 && next != first {
			t.Errorf("%+v: %d bytes, of the flag 1 %d", l, first, next)
		}
		for flag := 2; flag < 256; flag++ {
			if n := layouts.Size(l, uint8(flag)); n != next {
				t.Errorf("%+v: %d bytes of the flag 1, %d of %d", l, next, n, flag)
			}
		}
	})
}

// sized: a layout, a flag, and the bytes of its records, written out.
type sized struct {
	kind, coord, comp, flag, comps int
	of                             uint8
	want                           int
}

func checkSized(t *testing.T, s sized) {
	t.Helper()
	l := api.Layout{Type: s.kind, Coord: s.coord, Comp: s.comp, Flag: s.flag, Comps: s.comps, Row: 2}
	if n := layouts.Size(l, s.of); n != s.want {
		t.Errorf("%+v: %d bytes", s, n)
	}
}

// P8.2: records whose bits are whole bytes, and those about them. (Of types 6 and 7 bits are even.)
func TestWholeBytes(t *testing.T) {
	for _, s := range []sized{
		{4, 1, 1, 2, 3, 0, 1}, // 7 bits
		{4, 1, 1, 2, 4, 0, 1}, // 8
		{4, 2, 1, 2, 3, 0, 2}, // 9
		{4, 4, 1, 4, 3, 1, 2}, // 15
		{4, 4, 1, 4, 4, 1, 2}, // 16
		{4, 4, 1, 8, 1, 1, 3}, // 17
		{5, 2, 1, 8, 3, 0, 1}, // 7
		{5, 2, 1, 8, 4, 0, 1}, // 8
		{5, 4, 1, 8, 1, 0, 2}, // 9
		{5, 4, 2, 8, 4, 0, 2}, // 16
		{5, 8, 1, 8, 1, 0, 3}, // 17
		{6, 1, 1, 2, 1, 0, 4}, // 30
		{6, 1, 1, 4, 1, 0, 4}, // 32
		{6, 1, 2, 2, 1, 0, 5}, // 34
		{6, 1, 1, 2, 2, 3, 3}, // 22
		{6, 1, 1, 4, 2, 3, 3}, // 24
		{6, 1, 1, 8, 1, 3, 4}, // 26
		{7, 1, 1, 2, 1, 0, 5}, // 38
		{7, 1, 1, 4, 1, 0, 5}, // 40
		{7, 1, 2, 2, 1, 0, 6}, // 42
		{7, 1, 1, 4, 1, 2, 4}, // 30
		{7, 1, 1, 2, 3, 2, 4}, // 32
		{7, 1, 1, 8, 1, 2, 5}, // 34
	} {
		checkSized(t, s)
	}
}

// P8.2: the longest and the shortest records of each type, with each kind of flag.
func TestEndsOfEachType(t *testing.T) {
	for _, s := range []sized{
		{4, 1, 1, 2, 1, 0, 1}, {4, 1, 1, 2, 1, 255, 1}, {4, 32, 16, 8, 4, 0, 17}, {4, 32, 16, 8, 4, 255, 17},
		{5, 1, 1, 2, 1, 0, 1}, {5, 1, 1, 2, 1, 255, 1}, {5, 32, 16, 8, 4, 0, 16}, {5, 32, 16, 8, 4, 255, 16},
		{6, 1, 1, 2, 1, 0, 4}, {6, 1, 1, 2, 1, 1, 3}, {6, 1, 1, 2, 1, 2, 3}, {6, 1, 1, 2, 1, 3, 3}, {6, 1, 1, 2, 1, 255, 3},
		{6, 32, 16, 8, 4, 0, 129}, {6, 32, 16, 8, 4, 1, 81}, {6, 32, 16, 8, 4, 2, 81}, {6, 32, 16, 8, 4, 3, 81}, {6, 32, 16, 8, 4, 255, 81},
		{7, 1, 1, 2, 1, 0, 5}, {7, 1, 1, 2, 1, 1, 4}, {7, 1, 1, 2, 1, 2, 4}, {7, 1, 1, 2, 1, 3, 4}, {7, 1, 1, 2, 1, 255, 4},
		{7, 32, 16, 8, 4, 0, 161}, {7, 32, 16, 8, 4, 1, 113}, {7, 32, 16, 8, 4, 2, 113}, {7, 32, 16, 8, 4, 3, 113}, {7, 32, 16, 8, 4, 255, 113},
	} {
		checkSized(t, s)
	}
}

// The document's examples. (P8.1, P8.2)
func TestExamples(t *testing.T) {
	for _, s := range []sized{
		{4, 8, 8, 8, 3, 0, 6},
		{5, 8, 8, 0, 1, 0, 3},
		{6, 8, 8, 8, 1, 0, 29},
		{6, 8, 8, 8, 1, 1, 19},
		{7, 32, 16, 8, 4, 0, 161},
	} {
		checkSized(t, s)
	}
	coord, row, flag := plain(4), plain(5), plain(5)
	coord.Coord, row.Row, flag.Flag = 3, 1, 3
	if e := layouts.Check(coord); e != api.ErrForm {
		t.Error("Check(type 4, Coord 3):", e)
	}
	if e := layouts.Check(row); e != api.ErrForm {
		t.Error("Check(type 5, Row 1):", e)
	}
	if e := layouts.Check(flag); e != api.OK {
		t.Error("Check(type 5, Flag 3):", e)
	}
}
