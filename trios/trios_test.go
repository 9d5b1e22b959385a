package trios_test

import (
	"math"
	"slices"
	"strconv"
	"testing"

	"gouache/api"
	"gouache/trios"
)

// lettered: vertices of a text: a letter each, and perhaps a flag behind it.
func lettered(s string) []api.Rec {
	var out []api.Rec
	for _, c := range s {
		if c < 'a' {
			out[len(out)-1].Flag = uint8(c - '0')
			continue
		}
		out = append(out, vertex(int(c), 0))
	}
	return out
}

// letters of triangles, with blanks between; a ? for what is no vertex without a flag.
func letters(l []api.Tri) string {
	s := ""
	for i, tri := range l {
		if i > 0 {
			s += " "
		}
		for _, x := range tri {
			n := int((x.P.X - 1) / 3)
			if x != vertex(n, 0) {
				n = '?'
			}
			s += string(rune(n))
		}
	}
	return s
}

// P10.1: the document's examples, and what its words say, written out.
func TestWrittenOut(t *testing.T) {
	for _, c := range []struct {
		l       api.Layout
		s, want string
	}{
		{four, "a0bcd1e2f0gh", "abc bcd bde fgh"},
		{four, "", ""},
		{four, "a0bc", "abc"},
		{four, "a0b1c2", "abc"},
		{four, "a0b3c9", "abc"},
		{four, "a0bcd0ef", "abc def"},
		{four, "a0bcd0e3f4", "abc def"},
		{four, "a0bcd0e1f2g1", "abc def efg"},
		{four, "a0bcd0e9f9g2", "abc def dfg"},
		{four, "a0bcd1", "abc bcd"},
		{four, "a0bcd2", "abc acd"},
		{four, "a0bcd1e1", "abc bcd cde"},
		{four, "a0bcd2e2", "abc acd ade"},
		{four, "a0bcd1e2", "abc bcd bde"},
		{four, "a0bcd2e1", "abc acd cde"},
		{four, "a0bcd1e1f2g2h1i1j2", "abc bcd cde cef cfg fgh ghi gij"},
		{four, "a0bcd2e2f1g2h0ijk1", "abc acd ade def dfg hij ijk"},
		{five(2), "abcdef", "abc bdc cde dfe"},
		{five(2), "abcd", "abc bdc"},
		{five(3), "abcdef", "abd bed bce cfe"},
		{five(3), "abcdefghi", "abd bed bce cfe deg ehg efh fih"},
		{five(4), "abcdefgh", "abe bfe bcf cgf cdg dhg"},
		{five(2), "a1b2c3d9", "abc bdc"},
		{five(2), "a0b0c0d0", "abc bdc"},
	} {
		if got, e := trios.Of(c.l, lettered(c.s)); e != api.OK || letters(got) != c.want {
			t.Errorf("type %d, Row %d: %s: %s, %v, not %s", c.l.Type, c.l.Row, c.s, letters(got), e, c.want)
		}
		checkOf(t, c.l, lettered(c.s))
	}
}

// P10.1: the document's errors, and those at its edges, written out.
func TestErrors(t *testing.T) {
	for _, c := range []struct {
		l    api.Layout
		s    string
		want api.Errno
	}{
		{four, "a1bc", api.ErrFirst},
		{four, "a0bcd3", api.ErrFlag},
		{four, "a0b", api.ErrShort},
		{four, "a0", api.ErrShort},
		{four, "a1", api.ErrFirst},
		{four, "a2b0c0d0ef", api.ErrFirst},
		{four, "a3", api.ErrFirst},
		{four, "a3bcd3", api.ErrFirst},
		{four, "a1b", api.ErrFirst},
		// Flags that are not looked at tell no error.
		{four, "a0b3", api.ErrShort},
		{four, "a0bcd0", api.ErrShort},
		{four, "a0bcd0e", api.ErrShort},
		{four, "a0bcd0e3", api.ErrShort},
		{four, "a0bcd1e0f", api.ErrShort},
		{four, "a0bcd2e3", api.ErrFlag},
		// The first one from the left is told.
		{four, "a0bcd3e0", api.ErrFlag},
		{four, "a0bcd3e0f", api.ErrFlag},
		{four, "a0bcd0efg3h0", api.ErrFlag},
		{four, "a0bcd0efg0h3", api.ErrShort},
		{five(2), "abcde", api.ErrShort},
		{five(2), "ab", api.ErrShort},
		{five(2), "", api.ErrShort},
		{five(2), "a", api.ErrShort},
		{five(2), "abc", api.ErrShort},
		{five(3), "abcd", api.ErrShort},
		{five(3), "abcde", api.ErrShort},
		{five(3), "abcdefg", api.ErrShort},
		{five(5), "abcd", api.ErrShort},
	} {
		refuses(t, c.l, lettered(c.s), c.want)
	}
}

// P10.1: all lists of up to seven flags, of those that tell apart all that a flag may tell.
func TestAllFlags(t *testing.T) {
	for count := range 8 {
		eachFlags(count, []uint8{0, 1, 2, 3, 255}, func(flags []uint8) {
			checkOf(t, four, flagged(flags...))
		})
	}
}

// P10.1: longer ones, of flags that go on.
func TestFlagsThatGoOn(t *testing.T) {
	eachFlags(9, []uint8{0, 1, 2}, func(flags []uint8) {
		checkOf(t, four, append(flagged(0, 0, 0), flagged(flags...)...))
	})
}

// P10.1: each flag that there is, where it is looked at, and where it isn't.
func TestEachFlag(t *testing.T) {
	for n := range 256 {
		f := uint8(n)
		first := firstTold(f)
		if _, e := trios.Of(four, flagged(f, 0, 0)); e != first {
			t.Errorf("the first flag %d: %v, not %v", f, e, first)
		}
		if l := checkOf(t, four, flagged(0, f, f)); len(l) != 1 {
			t.Errorf("flags 0 %d %d: %d triangles", f, f, len(l))
		}
		if l := checkOf(t, four, flagged(0, 0, 0, 0, f, f, 1)); len(l) != 3 {
			t.Errorf("flags 0 0 0 0 %d %d 1: %d triangles", f, f, len(l))
		}
		if n > 2 {
			refuses(t, four, flagged(0, 0, 0, f), api.ErrFlag)
			refuses(t, four, flagged(0, 0, 0, f, 0, 0), api.ErrFlag)
			refuses(t, four, flagged(0, 0, 0, 0, 0, 0, 1, 2, f), api.ErrFlag)
		}
	}
}

// firstTold: what is told of a list of three with that first flag.
func firstTold(f uint8) api.Errno {
	if f != 0 {
		return api.ErrFirst
	}
	return api.OK
}

// P10.1: no vertices at all: of type 4 no triangles, and no error; of type 5 too few rows.
func TestNone(t *testing.T) {
	for _, v := range [][]api.Rec{nil, {}} {
		if l, e := trios.Of(four, v); len(l) != 0 || e != api.OK {
			t.Errorf("type 4: %v, %v", l, e)
		}
		for _, row := range []int{2, 3, 1000, math.MaxInt32, math.MaxInt} {
			refuses(t, five(row), v, api.ErrShort)
		}
	}
}

// P10.1: of type 5 all rows up to twelve vertices, with none to seven and more rows, and each number of vertices between.
func TestRows(t *testing.T) {
	v := so(100)
	for row := 2; row <= 12; row++ {
		for n := range 7*row + 3 {
			checkOf(t, five(row), v[:n])
		}
	}
}

// P10.1: whole rows, one vertex less, and one more.
func TestAroundWholeRows(t *testing.T) {
	v := so(3001)
	for _, row := range []int{2, 3, 7, 100, 1000} {
		for rows := 1; rows*row < len(v); rows += 1 + rows/4 {
			n := rows * row
			refuses(t, five(row), v[:n-1], api.ErrShort)
			refuses(t, five(row), v[:n+1], api.ErrShort)
			if rows == 1 {
				refuses(t, five(row), v[:n], api.ErrShort)
			} else if l := checkOf(t, five(row), v[:n]); len(l) == 0 {
				t.Errorf("%d rows of %d: no triangles", rows, row)
			}
		}
	}
}

// P10.1: a Row greater than there are vertices, and than half of them, up to the greatest int.
func TestGreatRows(t *testing.T) {
	for n := range 40 {
		v := so(n)
		for row := max(2, n/2+1); row < n+40; row++ {
			refuses(t, five(row), v, api.ErrShort)
		}
		for shift := 7; shift < strconv.IntSize-1; shift++ {
			for _, row := range []int{1<<shift - 1, 1 << shift, 1<<shift + 1, 1<<shift + n} {
				refuses(t, five(row), v, api.ErrShort)
			}
		}
		for less := range 41 {
			refuses(t, five(math.MaxInt-less), v, api.ErrShort)
		}
	}
}

// P10.1: of type 5 flags are not looked at, whatever stands there.
func TestFlagsOfRows(t *testing.T) {
	want := checkOf(t, five(3), so(9))
	for n := range 256 {
		f := uint8(n)
		for at := range 9 {
			v := so(9)
			v[at].Flag = f
			if l := checkOf(t, five(3), v); !slices.Equal(l, want) {
				t.Errorf("flag %d at %d: %v", f, at, l)
			}
		}
		if l := checkOf(t, five(3), flagged(f, f, f, f, f, f, f, f, f)); !slices.Equal(l, want) {
			t.Errorf("flags %d: %v", f, l)
		}
	}
}

// P10.1: vertices are told without flags, and with all else that they have.
func TestToldWithoutFlags(t *testing.T) {
	full := api.Rec{Flag: 255, P: api.Spot{X: math.MaxUint32, Y: math.MaxUint32}, C: api.Colour{65535, 65535, 65535, 65535}}
	without := full
	without.Flag = 0
	begin, on := full, full
	begin.Flag = 0
	on.Flag = 1
	fan := full
	fan.Flag = 2
	for _, c := range []struct {
		l api.Layout
		v []api.Rec
		n int
	}{
		{four, []api.Rec{begin, full, full, on, fan, on, begin, full, full, fan}, 6},
		{five(2), []api.Rec{full, full, full, full, full, full}, 4},
	} {
		l, e := trios.Of(c.l, c.v)
		if e != api.OK || !slices.Equal(l, slices.Repeat([]api.Tri{{without, without, without}}, c.n)) {
			t.Errorf("type %d: %v, %v", c.l.Type, l, e)
		}
	}
}

// P10.1: of a vertex nothing else is asked: not whether its numbers have room in the layout, nor whether its triangle has an area.
func TestNothingElseIsAsked(t *testing.T) {
	small4 := api.Layout{Type: 4, Coord: 1, Comp: 1, Flag: 2, Comps: 1, Row: -5}
	small5 := api.Layout{Type: 5, Coord: 1, Comp: 1, Flag: -1, Comps: 1, Row: 2}
	checkOf(t, small4, flagged(0, 9, 99, 1, 2, 0, 4, 255))
	checkOf(t, small5, flagged(0, 9, 99, 1, 2, 0, 4, 255))
	alike := make([]api.Rec, 6)
	for _, l := range []api.Layout{small4, small5} {
		if n := len(checkOf(t, l, alike)); n != 2*(l.Type-3) {
			t.Errorf("type %d, six vertices alike: %d triangles", l.Type, n)
		}
	}
}

// P10.1: what the layout has beside its type and its rows is not to be seen in the triangles.
func TestAllThatMayBe(t *testing.T) {
	v4, v5 := flagged(0, 3, 4, 1, 2, 0, 1, 2), flagged(0, 3, 4, 1, 2, 0, 1, 2)
	r := api.Range{Lo: 9, Hi: -9}
	for _, coord := range []int{1, 2, 4, 8, 12, 16, 24, 32} {
		for _, comp := range []int{1, 2, 4, 8, 12, 16} {
			for comps := 1; comps <= 4; comps++ {
				l := api.Layout{Coord: coord, Comp: comp, Comps: comps, X: r, Y: r, C: [4]api.Range{r, r, r, r}}
				for _, n := range []int{2, 4, 8} {
					l.Type, l.Flag, l.Row = 4, n, n-3
					checkOf(t, l, v4)
				}
				for _, n := range []int{0, 1, 3, -1, math.MinInt, math.MaxInt} {
					l.Type, l.Flag, l.Row = 5, n, 4
					checkOf(t, l, v5)
				}
			}
		}
	}
}

// P10.1: layouts that may not be, and those of other types, whatever else is handed in: ErrForm is told ahead of all.
func TestWrongLayouts(t *testing.T) {
	lists := [][]api.Rec{nil, {}, so(1), so(2), so(3), so(4), so(6), flagged(1, 0, 0), flagged(3), flagged(0, 0, 0, 3), flagged(0, 0, 0, 0)}
	for _, l := range wrongLayouts() {
		for _, v := range lists {
			refuses(t, l, v, api.ErrForm)
		}
	}
}

// P10.1: types 6 and 7 have no vertices, of all bits that may be.
func TestPatchesAreNotTold(t *testing.T) {
	for _, kind := range []int{3, 6, 7, 8} {
		for _, flag := range []int{2, 4, 8} {
			for row := range 4 {
				l := api.Layout{Type: kind, Coord: 8, Comp: 8, Flag: flag, Comps: 1, Row: row}
				refuses(t, l, nil, api.ErrForm)
				refuses(t, l, so(6), api.ErrForm)
			}
		}
	}
}

// P10.1: many vertices, more than a stream has room for.
func TestMany(t *testing.T) {
	const many = 100000
	checkOf(t, four, strewn(many, 1))
	for _, f := range []uint8{1, 2} {
		flags := slices.Repeat([]uint8{f}, many)
		clear(flags[:3])
		if n := len(checkOf(t, four, flagged(flags...))); n != many-2 {
			t.Errorf("flags %d: %d triangles", f, n)
		}
		flags[many-1] = 3
		refuses(t, four, flagged(flags...), api.ErrFlag)
		flags[many-1] = 0
		refuses(t, four, flagged(flags...), api.ErrShort)
	}
	for _, row := range []int{2, 250, many / 2} {
		checkOf(t, five(row), so(many))
	}
	refuses(t, five(many), so(many), api.ErrShort)
	refuses(t, five(3), so(many), api.ErrShort)
}
