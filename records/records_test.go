package records_test

import (
	"math"
	"slices"
	"testing"

	"gouache/api"
	"gouache/records"
)

// The document's examples.
var plain = api.Layout{Type: 4, Coord: 4, Comp: 8, Flag: 2, Comps: 1}

func TestExamples(t *testing.T) {
	x := api.Rec{Flag: 1, P: api.Spot{X: 15}, C: api.Colour{255}}
	if b, e := records.Put(plain, []api.Rec{x}); e != api.OK || !slices.Equal(b, []byte{124, 63, 192}) {
		t.Errorf("Put: %v, %v", b, e)
	}
	for _, b := range [][]byte{{124, 63, 192}, {124, 63, 255}} {
		if v, e := records.Get(plain, b); e != api.OK || !slices.Equal(v, []api.Rec{x}) {
			t.Errorf("Get(%v): %v, %v", b, v, e)
		}
	}
	refusesGet(t, plain, []byte{124, 63}, api.ErrShort)
	refusesPut(t, plain, []api.Rec{{Flag: 4}}, api.ErrArg)
	refusesPut(t, plain, []api.Rec{{C: api.Colour{1, 1}}}, api.ErrArg)
	six := plain
	six.Type = 6
	refusesGet(t, six, nil, api.ErrForm)
}

// P9.1, P9.2: records, written out: where in their bytes each number stands.
func TestWrittenOut(t *testing.T) {
	for _, c := range []struct {
		l api.Layout
		v []api.Rec
		b []byte
	}{
		{api.Layout{Type: 4, Coord: 8, Comp: 8, Flag: 8, Comps: 4},
			[]api.Rec{{Flag: 1, P: api.Spot{X: 2, Y: 3}, C: api.Colour{4, 5, 6, 7}}, {Flag: 255, P: api.Spot{X: 254, Y: 253}, C: api.Colour{252, 251, 250, 249}}},
			[]byte{1, 2, 3, 4, 5, 6, 7, 255, 254, 253, 252, 251, 250, 249}},
		{api.Layout{Type: 5, Coord: 8, Comp: 8, Comps: 2, Row: 2},
			[]api.Rec{{P: api.Spot{X: 2, Y: 3}, C: api.Colour{4, 5}}, {P: api.Spot{X: 6, Y: 7}, C: api.Colour{8, 9}}},
			[]byte{2, 3, 4, 5, 6, 7, 8, 9}},
		{api.Layout{Type: 4, Coord: 32, Comp: 16, Flag: 8, Comps: 2},
			[]api.Rec{{Flag: 9, P: api.Spot{X: 0x01020304, Y: 0xfffefdfc}, C: api.Colour{0x0506, 0xfbfa}}},
			[]byte{9, 1, 2, 3, 4, 255, 254, 253, 252, 5, 6, 251, 250}},
		// 10 0001 1000 01 10, and noughts: 14 bits.
		{api.Layout{Type: 4, Coord: 4, Comp: 2, Flag: 2, Comps: 2},
			[]api.Rec{{Flag: 2, P: api.Spot{X: 1, Y: 8}, C: api.Colour{1, 2}}},
			[]byte{0b10000110, 0b00011000}},
		// 0011 101010101010 010101010101 0110, without noughts: 32 bits.
		{api.Layout{Type: 4, Coord: 12, Comp: 4, Flag: 4, Comps: 1},
			[]api.Rec{{Flag: 3, P: api.Spot{X: 0xaaa, Y: 0x555}, C: api.Colour{6}}},
			[]byte{0x3a, 0xaa, 0x55, 0x56}},
		// 1 0 1: three bits each.
		{api.Layout{Type: 5, Coord: 1, Comp: 1, Comps: 1, Row: 9},
			[]api.Rec{{P: api.Spot{X: 1}, C: api.Colour{1}}, {P: api.Spot{Y: 1}}, {C: api.Colour{1}}},
			[]byte{0b10100000, 0b01000000, 0b00100000}},
	} {
		if b, e := records.Put(c.l, c.v); e != api.OK || !slices.Equal(b, c.b) {
			t.Errorf("Put(%+v, %v): %v, %v", c.l, c.v, b, e)
		}
		if v, e := records.Get(c.l, c.b); e != api.OK || !slices.Equal(v, c.v) {
			t.Errorf("Get(%+v, %v): %v, %v", c.l, c.b, v, e)
		}
	}
}

// P9.1: of all layouts bytes that end with a record, one byte less, and one more; and fewer yet.
func TestGetOfEachLayout(t *testing.T) {
	seed := uint64(1)
	eachLayout(func(l api.Layout) {
		seed = stir(seed)
		size := sizeOf(l)
		b := strewnBytes(5*size+1, seed)
		for n := range 2*size + 2 {
			checkGet(t, l, b[:n])
		}
		for _, n := range []int{5*size - 1, 5 * size, 5*size + 1} {
			checkGet(t, l, b[:n])
		}
		for _, x := range []byte{0x00, 0xff, 0xaa, 0x55} {
			checkGet(t, l, slices.Repeat([]byte{x}, 3*size))
		}
	})
}

// P9.2: of all layouts records that have room, alone and together.
func TestPutOfEachLayout(t *testing.T) {
	seed := uint64(2)
	eachLayout(func(l api.Layout) {
		seed = stir(seed)
		v := append(strewn(l, 4, seed), api.Rec{}, fullest(l))
		for n := range len(v) + 1 {
			checkPut(t, l, v[:n])
		}
		checkPut(t, l, []api.Rec{fullest(l)})
	})
}

// P9.1, P9.2: no bytes, and no records, are none of each other, and no error.
func TestNone(t *testing.T) {
	eachLayout(func(l api.Layout) {
		for _, b := range [][]byte{nil, {}} {
			if v, e := records.Get(l, b); len(v) != 0 || e != api.OK {
				t.Errorf("Get(%+v, none): %v, %v", l, v, e)
			}
		}
		for _, v := range [][]api.Rec{nil, {}} {
			if b, e := records.Put(l, v); len(b) != 0 || e != api.OK {
				t.Errorf("Put(%+v, none): %v, %v", l, b, e)
			}
		}
	})
}

// P9.2: each number that needs just as many bits as there are, and one more, alone and among others; flags of type 5 that are not 0, and colours beyond Comps, too.
func TestRoom(t *testing.T) {
	eachLayout(func(l api.Layout) {
		for _, n := range numbersOf(l) {
			for _, base := range []api.Rec{{}, fullest(l)} {
				r := base
				n.set(&r, greatest(n.bits))
				if b := checkPut(t, l, []api.Rec{base, r, base}); len(b) != 3*sizeOf(l) {
					t.Errorf("%s of %d bits: %d bytes", n.name, n.bits, len(b))
				}
				for _, v := range tooGreat(n.bits, n.top) {
					n.set(&r, v)
					refusesPut(t, l, []api.Rec{r}, api.ErrArg)
					refusesPut(t, l, []api.Rec{r, base}, api.ErrArg)
					refusesPut(t, l, []api.Rec{base, base, r}, api.ErrArg)
				}
			}
		}
	})
}

// P9.2: each flag of type 5 but 0, and each place beyond Comps, whatever the layout's Flag and Comp are.
func TestWhatIsNotTold(t *testing.T) {
	for _, flag := range []int{0, 2, 8, -1, math.MaxInt, math.MinInt} {
		l := api.Layout{Type: 5, Coord: 8, Comp: 16, Flag: flag, Comps: 1, Row: 2}
		for n := 1; n < 256; n++ {
			refusesPut(t, l, []api.Rec{{Flag: uint8(n)}}, api.ErrArg)
		}
		for i := 1; i < 4; i++ {
			for _, v := range []uint16{1, 2, 255, 256, 32768, 65535} {
				var c api.Colour
				c[i] = v
				refusesPut(t, l, []api.Rec{{C: c}}, api.ErrArg)
				l.Comps = i + 1
				checkPut(t, l, []api.Rec{{C: c}})
				l.Comps = 1
			}
		}
	}
}

// P9.1, P9.2: of type 5 Flag may be anything, and none of it stands in a record; of type 4 Row.
func TestWhatIsNotAsked(t *testing.T) {
	numbers := []int{0, 1, 2, 3, 8, 9, 32, 64, -1, -2, -8, math.MinInt32, math.MinInt, math.MaxInt32, math.MaxInt}
	v := []api.Rec{{P: api.Spot{X: 1, Y: 2}, C: api.Colour{3}}, {P: api.Spot{X: 255, Y: 254}, C: api.Colour{253}}, {}}
	b := []byte{1, 2, 3, 255, 254, 253, 0, 0, 0}
	five := api.Layout{Type: 5, Coord: 8, Comp: 8, Comps: 1, Row: 2}
	for _, n := range numbers {
		five.Flag = n
		bothWays(t, five, v, b)
	}
	// The vertices need not be whole rows.
	for _, row := range []int{2, 3, 4, 65536, math.MaxInt} {
		five.Row = row
		bothWays(t, five, v, b)
	}
	four := api.Layout{Type: 4, Coord: 8, Comp: 8, Flag: 8, Comps: 1}
	for _, n := range numbers {
		four.Row = n
		bothWays(t, four, v, []byte{0, 1, 2, 3, 0, 255, 254, 253, 0, 0, 0, 0})
	}
}

// bothWays: the records are those bytes, and the bytes those records.
func bothWays(t *testing.T, l api.Layout, v []api.Rec, b []byte) {
	t.Helper()
	if got, e := records.Put(l, v); e != api.OK || !slices.Equal(got, b) {
		t.Errorf("Put(%+v, %v): %v, %v, not %v", l, v, got, e, b)
	}
	if got, e := records.Get(l, b); e != api.OK || !slices.Equal(got, v) {
		t.Errorf("Get(%+v, %v): %v, %v, not %v", l, b, got, e, v)
	}
}

// P9.1, P9.2: numbers are raw: of the layout's ranges nothing is asked.
func TestRanges(t *testing.T) {
	for _, r := range []api.Range{{}, {Lo: 7, Hi: 7}, {Lo: 1, Hi: 0}, {Lo: math.MinInt32, Hi: math.MaxInt32}} {
		l := plain
		l.X, l.Y, l.C = r, r, [4]api.Range{r, r, r, r}
		bothWays(t, l, []api.Rec{{Flag: 1, P: api.Spot{X: 15}, C: api.Colour{255}}}, []byte{124, 63, 192})
	}
}

// P9.1: Get does not ask which flags there are, nor which comes first.
func TestEachFlag(t *testing.T) {
	for _, n := range flagBits {
		l := api.Layout{Type: 4, Coord: 8, Comp: 8, Flag: n, Comps: 1}
		var v []api.Rec
		for flag := int(greatest(n)); flag >= 0; flag-- {
			r := api.Rec{Flag: uint8(flag), P: api.Spot{X: 1}, C: api.Colour{2}}
			checkGet(t, l, checkPut(t, l, []api.Rec{r}))
			v = append(v, r)
		}
		if got := checkGet(t, l, checkPut(t, l, v)); !slices.Equal(got, v) {
			t.Errorf("flags of %d bits: %v", n, got)
		}
	}
}

// P9.1: MaxBytes bytes, and as many as make whole records; one more is too many, whether it ends within a record or not.
func TestMostBytes(t *testing.T) {
	b := strewnBytes(mostBytes+64, 3)
	for _, l := range aLayoutOfEachSize() {
		size := sizeOf(l)
		whole := mostBytes - mostBytes%size
		if v := checkGet(t, l, b[:whole]); len(v) != mostBytes/size {
			t.Errorf("%d bytes each: %d records of %d bytes", size, len(v), whole)
		}
		if size != 1 {
			refusesGet(t, l, b[:whole-1], api.ErrShort)
		}
		if whole != mostBytes {
			refusesGet(t, l, b[:mostBytes], api.ErrShort)
		}
		refusesGet(t, l, b[:mostBytes+1], api.ErrLimit)
		refusesGet(t, l, b[:whole+size], api.ErrLimit)
		refusesGet(t, l, b, api.ErrLimit)
	}
}

// P9.2: as many records as MaxBytes bytes have room for, and one more.
func TestMostRecords(t *testing.T) {
	for i, l := range aLayoutOfEachSize() {
		size := sizeOf(l)
		most := mostBytes / size
		v := strewn(l, most+1, uint64(4+i))
		if b := checkPut(t, l, v[:most]); len(b) != most*size {
			t.Errorf("%d bytes each: %d bytes of %d records", size, len(b), most)
		}
		refusesPut(t, l, v, api.ErrLimit)
		refusesPut(t, l, make([]api.Rec, 3*most), api.ErrLimit)
	}
}

// P9.2: a record without room is told ahead of too many, wherever it stands.
func TestNoRoomAheadOfTooMany(t *testing.T) {
	for _, l := range aLayoutOfEachSize() {
		v := make([]api.Rec, mostBytes/sizeOf(l)+2)
		for _, n := range numbersOf(l) {
			wrong := tooGreat(n.bits, n.top)
			if wrong == nil {
				continue
			}
			for _, at := range []int{0, len(v) / 2, len(v) - 2, len(v) - 1} {
				n.set(&v[at], wrong[0])
				refusesPut(t, l, v, api.ErrArg)
				n.set(&v[at], 0)
			}
		}
		refusesPut(t, l, v, api.ErrLimit)
	}
}

// P9.1, P9.2: layouts that may not be, and those of other types, whatever else is handed in: ErrForm is told ahead of all.
func TestWrongLayouts(t *testing.T) {
	bytes := [][]byte{nil, {}, {1}, make([]byte, 6), make([]byte, mostBytes), make([]byte, mostBytes+1)}
	lists := [][]api.Rec{nil, {}, {{}}, {{Flag: 255, P: api.Spot{X: math.MaxUint32}, C: api.Colour{1, 2, 3, 4}}}, make([]api.Rec, mostBytes+1)}
	for _, l := range wrongLayouts() {
		for _, b := range bytes {
			refusesGet(t, l, b, api.ErrForm)
		}
		for _, v := range lists {
			refusesPut(t, l, v, api.ErrForm)
		}
	}
}

// P9.1, P9.2: types 6 and 7 are not told here, of all bits that may be.
func TestPatchesAreNotTold(t *testing.T) {
	eachLayout(func(l api.Layout) {
		l.Flag, l.Row = 8, 2
		for _, kind := range []int{3, 6, 7, 8} {
			l.Type = kind
			refusesGet(t, l, nil, api.ErrForm)
			refusesGet(t, l, make([]byte, 161), api.ErrForm)
			refusesPut(t, l, nil, api.ErrForm)
			refusesPut(t, l, make([]api.Rec, 2), api.ErrForm)
		}
	})
}
