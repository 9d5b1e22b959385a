package trios_test

import (
	"slices"
	"testing"

	"gouache/api"
	"gouache/trios"
)

// moved: the vertices, with other numbers, the same flags.
func moved(v []api.Rec, by int) []api.Rec {
	out := make([]api.Rec, len(v))
	for i, x := range v {
		out[i] = vertex(by+i, x.Flag)
	}
	return out
}

// P10.2: vertices that begin anew, behind others, have the triangles of both, one behind the other.
func TestBeginAnew(t *testing.T) {
	for n := range 60 {
		for m := range 20 {
			if n == 1 || n == 2 || m == 1 || m == 2 {
				continue
			}
			v, w := strewn(n, uint64(7*n+1)), moved(strewn(m, uint64(11*m+5)), 1000)
			both := checkOf(t, four, slices.Concat(v, w))
			if !slices.Equal(both, slices.Concat(checkOf(t, four, v), checkOf(t, four, w))) {
				t.Errorf("%d and %d vertices, flags %v, %v: %v", n, m, flagsOf(v), flagsOf(w), both)
			}
		}
	}
}

// P10.2: also all short ones, behind one another.
func TestAllShortOnesAnew(t *testing.T) {
	var lists [][]api.Rec
	for count := range 6 {
		eachFlags(count, []uint8{0, 1, 2, 3}, func(flags []uint8) {
			if _, e := trios.Of(four, flagged(flags...)); e == api.OK {
				lists = append(lists, flagged(flags...))
			}
		})
	}
	if len(lists) != 1+16+16*2+16*4 {
		t.Errorf("%d lists make triangles", len(lists))
	}
	for _, v := range lists {
		for _, w := range lists {
			w = moved(w, 100)
			both := checkOf(t, four, slices.Concat(v, w))
			if !slices.Equal(both, slices.Concat(checkOf(t, four, v), checkOf(t, four, w))) {
				t.Errorf("flags %v, %v: %v", flagsOf(v), flagsOf(w), both)
			}
		}
	}
}

// shared: how many vertices of a triangle the other one has.
func shared(a, b api.Tri) int {
	n := 0
	for _, x := range a {
		if slices.Contains(b[:], x) {
			n++
		}
	}
	return n
}

// P10.2: who is not the first of its own shares two vertices with the one ahead: of flag 1 the last two, of flag 2 the first and the last; who is, none. Its last vertex is the one that tells it.
func TestSharesTwo(t *testing.T) {
	v := strewn(3000, 3)
	l := checkOf(t, four, v)
	at := 0
	for i, tri := range l {
		f := v[at].Flag
		if f == 0 {
			if i > 0 && shared(tri, l[i-1]) != 0 {
				t.Errorf("the one at %d begins, and shares", i)
			}
			at += 2
		} else {
			ahead := l[i-1]
			if shared(tri, ahead) != 2 || tri[0] != ahead[2-f] || tri[1] != ahead[2] {
				t.Errorf("the one at %d, flag %d: %v behind %v", i, f, tri, ahead)
			}
		}
		if tri[2].P != v[at].P {
			t.Errorf("the one at %d ends with %v, not %v", i, tri[2], v[at])
		}
		at++
	}
	if at != len(v) {
		t.Errorf("%d of %d vertices are told", at, len(v))
	}
}

// P10.2: rows, so many, of so many vertices make twice as many triangles as there are cells.
func TestTwicePerCell(t *testing.T) {
	for rows := 2; rows < 30; rows++ {
		for row := 2; row < 30; row++ {
			cells := 0
			for range rows - 1 {
				for range row - 1 {
					cells++
				}
			}
			if l := checkOf(t, five(row), so(rows*row)); len(l) != 2*cells {
				t.Errorf("%d rows of %d: %d triangles of %d cells", rows, row, len(l), cells)
			}
		}
	}
}

// P10.2: the two of a cell share their side from q to r, and have the cell's four vertices.
func TestTwoOfACell(t *testing.T) {
	v := so(5 * 7)
	l := checkOf(t, five(7), v)
	for k := 0; k < len(l); k += 2 {
		one, other := l[k], l[k+1]
		if shared(one, other) != 2 || one[1] != other[0] || one[2] != other[2] {
			t.Errorf("%v and %v", one, other)
		}
		p, s := one[0], other[1]
		if slices.Index(v, s)-slices.Index(v, p) != 7+1 {
			t.Errorf("from %v to %v is no cell", p, s)
		}
	}
}

// someOf both types: layouts, and vertices that make triangles.
func someOf() ([]api.Layout, [][]api.Rec) {
	return []api.Layout{four, four, four, five(2), five(3), five(6)},
		[][]api.Rec{flagged(0, 7, 8), flagged(0, 7, 8, 1, 2, 0, 9, 9, 2, 1), strewn(500, 4), flagged(3, 2, 1, 9), flagged(3, 2, 1, 9, 8, 7, 6, 5, 4), so(600)}
}

// R4: what is handed in stays as it was, and what stands behind it; what is told shares no memory with it, nor with another answer.
func TestMemoryOfItsOwn(t *testing.T) {
	layouts, lists := someOf()
	for i, l := range layouts {
		v := lists[i]
		handed := append(slices.Clone(v), vertex(77, 77), vertex(78, 78))
		first, _ := trios.Of(l, handed[:len(v)])
		second, _ := trios.Of(l, handed[:len(v)])
		want := checkOf(t, l, v)
		if !slices.Equal(handed[:len(v)], v) || handed[len(v)] != vertex(77, 77) || handed[len(v)+1] != vertex(78, 78) {
			t.Errorf("type %d, %d vertices: what was handed in is changed", l.Type, len(v))
		}
		clear(handed)
		if !slices.Equal(first, want) {
			t.Errorf("type %d, %d vertices: the triangles hang on the vertices", l.Type, len(v))
		}
		again := slices.Clone(v)
		third, _ := trios.Of(l, again)
		clear(first)
		clear(third)
		if !slices.Equal(second, want) || !slices.Equal(again, v) {
			t.Errorf("type %d, %d vertices: two answers share memory", l.Type, len(v))
		}
	}
}

// R4: no triangle shares memory with another one of its answer.
func TestTrianglesOfTheirOwn(t *testing.T) {
	layouts, lists := someOf()
	for i, l := range layouts {
		got, _ := trios.Of(l, lists[i])
		want := checkOf(t, l, lists[i])
		for k := range got {
			got[k] = api.Tri{}
			if !slices.Equal(got[k+1:], want[k+1:]) {
				t.Errorf("type %d, %d vertices: the triangle at %d shares memory", l.Type, len(lists[i]), k)
			}
		}
	}
}

// R5: what a call answers hangs on what it was given alone, not on calls ahead of it.
func TestCallsAlone(t *testing.T) {
	layouts, lists := someOf()
	var want [][]api.Tri
	for i, l := range layouts {
		want = append(want, checkOf(t, l, lists[i]))
	}
	for i, l := range slices.Backward(layouts) {
		refuses(t, api.Layout{}, lists[i], api.ErrForm)
		refuses(t, four, flagged(0, 0, 0, 1, 3), api.ErrFlag)
		refuses(t, five(2), flagged(0, 0, 0), api.ErrShort)
		// Nothing is left of the triangle that was ahead in another call.
		refuses(t, four, flagged(1), api.ErrFirst)
		if got := checkOf(t, l, lists[i]); !slices.Equal(got, want[i]) {
			t.Errorf("type %d, %d vertices: another answer", l.Type, len(lists[i]))
		}
	}
}
