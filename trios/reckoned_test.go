package trios_test

import (
	"math"
	"slices"
	"testing"

	"gouache/api"
	"gouache/trios"
)

var four = api.Layout{Type: 4, Coord: 8, Comp: 8, Flag: 8, Comps: 1}

func five(row int) api.Layout {
	return api.Layout{Type: 5, Coord: 8, Comp: 8, Comps: 1, Row: row}
}

// vertex at n: each is another one in all its numbers, but for the flag.
func vertex(n int, flag uint8) api.Rec {
	x := uint32(n)
	return api.Rec{
		Flag: flag,
		P:    api.Spot{X: 3*x + 1, Y: math.MaxUint32 - x},
		C:    api.Colour{uint16(5*x + 1), uint16(7*x + 2), uint16(9*x + 3), uint16(11*x + 4)},
	}
}

// flagged: a vertex for each flag.
func flagged(flags ...uint8) []api.Rec {
	out := make([]api.Rec, len(flags))
	for i, f := range flags {
		out[i] = vertex(i, f)
	}
	return out
}

// so many vertices, of the flag 0.
func so(many int) []api.Rec { return flagged(make([]uint8, many)...) }

// corners of a triangle: where its vertices stand in the list.
type corners [3]int

// wantFlags: P10.1 of type 4, by places alone: behind one that begins the second corner is the vertex just ahead; so the first one is two ahead, or, all along a row of flags 2, where it was ahead of that row.
func wantFlags(v []api.Rec) ([]corners, api.Errno) {
	if len(v) > 0 && v[0].Flag != 0 {
		return nil, api.ErrFirst
	}
	var out []corners
	begun, first := -3, 0
	for i, x := range v {
		f := x.Flag
		switch {
		case i == begun+1 || i == begun+2:
		case f > 2:
			return nil, api.ErrFlag
		case f == 0 && i+2 >= len(v):
			return nil, api.ErrShort
		case f == 0:
			begun, first = i, i
			out = append(out, corners{i, i + 1, i + 2})
		case f == 1:
			first = i - 2
			out = append(out, corners{first, i - 1, i})
		case f == 2:
			out = append(out, corners{first, i - 1, i})
		}
	}
	return out, api.OK
}

// wantRows: P10.1 of type 5, triangle by triangle, each from its own number.
func wantRows(v []api.Rec, row int) ([]corners, api.Errno) {
	rows := 0
	left := len(v)
	for left >= row {
		left -= row
		rows++
	}
	if left != 0 || rows < 2 {
		return nil, api.ErrShort
	}
	out := make([]corners, 2*(rows-1)*(row-1))
	for k := range out {
		cell := k / 2
		p := cell/(row-1)*row + cell%(row-1)
		out[k] = corners{p, p + 1, p + row}
		if k%2 == 1 {
			out[k] = corners{p + 1, p + row + 1, p + row}
		}
	}
	return out, api.OK
}

// wantOf: P10.1, of a layout of types 4 and 5 that may be.
func wantOf(l api.Layout, v []api.Rec) ([]api.Tri, api.Errno) {
	places, e := wantFlags(v)
	if l.Type == 5 {
		places, e = wantRows(v, l.Row)
	}
	if e != api.OK {
		return nil, e
	}
	out := make([]api.Tri, len(places))
	for i, c := range places {
		for k, at := range c {
			out[i][k] = v[at]
			out[i][k].Flag = 0
		}
	}
	return out, api.OK
}

// flagsOf the first vertices of a list.
func flagsOf(v []api.Rec) []uint8 {
	var out []uint8
	for _, x := range v[:min(len(v), 16)] {
		out = append(out, x.Flag)
	}
	return out
}

// checkOf: Of's answer is that of the document, in a room of its own size; what it was handed stays as it was.
func checkOf(t *testing.T, l api.Layout, v []api.Rec) []api.Tri {
	t.Helper()
	before := slices.Clone(v)
	got, e := trios.Of(l, v)
	want, f := wantOf(l, v)
	if e != f || !slices.Equal(got, want) {
		t.Fatalf("Of(%+v, %d vertices, flags %v..): %d triangles, %v, not %d, %v", l, len(v), flagsOf(v), len(got), e, len(want), f)
	}
	if !slices.Equal(v, before) {
		t.Fatalf("Of(%+v, %d vertices) changed them", l, len(v))
	}
	if cap(got) != len(got) || e != api.OK && got != nil {
		t.Fatalf("Of(%+v, %d vertices): %d triangles, %v, with room for %d", l, len(v), len(got), e, cap(got))
	}
	return got
}

// refuses: Of answers that error, and nothing.
func refuses(t *testing.T, l api.Layout, v []api.Rec, want api.Errno) {
	t.Helper()
	if got, e := trios.Of(l, v); e != want || got != nil {
		t.Errorf("Of(%+v, %d vertices, flags %v..): %d triangles, %v, not %v", l, len(v), flagsOf(v), len(got), e, want)
	}
}

// eachFlags: all lists of so many flags, each of those given.
func eachFlags(count int, of []uint8, see func([]uint8)) {
	flags := make([]uint8, count)
	var from func(int)
	from = func(at int) {
		if at == count {
			see(flags)
			return
		}
		for _, f := range of {
			flags[at] = f
			from(at + 1)
		}
	}
	from(0)
}

// stir: a number from the one before it, the same in each run.
func stir(n uint64) uint64 {
	n ^= n << 13
	n ^= n >> 7
	return n ^ n<<17
}

// strewn: so many vertices of type 4 that make triangles: the first begins, the last ones take what is there.
func strewn(count int, seed uint64) []api.Rec {
	out := so(count)
	for i := 3; i < count; i++ {
		seed = stir(seed)
		f := uint8(seed >> 30 % 3)
		if f == 0 && i+2 < count {
			out[i+1].Flag, out[i+2].Flag = uint8(seed>>40), uint8(seed>>50)
			i += 2
		} else {
			out[i].Flag = max(f, 1)
		}
	}
	return out
}

// wrongLayouts: those that may not be, for each one of their fields alone, and those of other types.
func wrongLayouts() []api.Layout {
	var out []api.Layout
	for _, kind := range []int{4, 5} {
		plain := api.Layout{Type: kind, Coord: 8, Comp: 8, Flag: 8, Comps: 1, Row: 2}
		with := func(change func(*api.Layout, int), numbers ...int) {
			for _, n := range numbers {
				l := plain
				change(&l, n)
				out = append(out, l)
			}
		}
		with(func(l *api.Layout, n int) { l.Type = n }, 3, 6, 7, 8, 0, 1, 2, 9, -4, -5, math.MinInt, math.MaxInt)
		with(func(l *api.Layout, n int) { l.Coord = n }, 0, 3, 5, 7, 9, 15, 20, 31, 33, -1, -8, math.MinInt, math.MaxInt)
		with(func(l *api.Layout, n int) { l.Comp = n }, 0, 3, 5, 7, 9, 15, 17, 24, 32, -1, -8, math.MinInt, math.MaxInt)
		with(func(l *api.Layout, n int) { l.Comps = n }, 0, 5, -1, 8, math.MinInt, math.MaxInt)
		if kind == 4 {
			with(func(l *api.Layout, n int) { l.Flag = n }, 0, 1, 3, 5, 7, 9, 12, 16, -2, math.MinInt, math.MaxInt)
		} else {
			with(func(l *api.Layout, n int) { l.Row = n }, 1, 0, -1, -2, math.MinInt32, math.MinInt)
		}
	}
	return append(out, api.Layout{})
}
