package sheets_test

import (
	"math"
	"slices"
	"testing"

	"gouache/api"
	"gouache/sheets"
)

// The document's examples.
var plain = api.Layout{Type: 6, Coord: 8, Comp: 8, Flag: 8, Comps: 1}

func TestExamples(t *testing.T) {
	bytes := append([]byte{1}, slices.Repeat([]byte{7}, 18)...)
	want := api.Sheet{Flag: 1, C: [4]api.Colour{{7}, {7}}}
	for i := range 8 {
		want.P[i] = api.Spot{X: 7, Y: 7}
	}
	if s, e := sheets.Get(plain, bytes); e != api.OK || !slices.Equal(s, []api.Sheet{want}) {
		t.Errorf("Get: %v, %v", s, e)
	}
	refusesGet(t, plain, bytes[:18], api.ErrShort)
	nought := make([]byte, 29)
	if s, e := sheets.Get(plain, nought); e != api.OK || !slices.Equal(s, []api.Sheet{{}}) {
		t.Errorf("Get: %v, %v", s, e)
	}
	refusesGet(t, plain, append(nought, 3), api.ErrShort)
	ninth := api.Sheet{Flag: 1}
	ninth.P[8] = api.Spot{X: 1, Y: 1}
	refusesPut(t, plain, []api.Sheet{ninth}, api.ErrArg)
	four := plain
	four.Type = 4
	refusesPut(t, four, nil, api.ErrForm)
}

// counted: so many bytes, from one on.
func counted(from byte, count int) []byte {
	out := make([]byte, count)
	for i := range out {
		out[i] = from + byte(i)
	}
	return out
}

// P11.1, P11.2: sheets, written out: where in their bytes each number stands.
func TestWrittenOut(t *testing.T) {
	six := plain
	six.Comps = 2
	bothWays(t, six, []api.Sheet{
		{P: [16]api.Spot{{X: 1, Y: 2}, {X: 3, Y: 4}, {X: 5, Y: 6}, {X: 7, Y: 8}, {X: 9, Y: 10}, {X: 11, Y: 12}, {X: 13, Y: 14}, {X: 15, Y: 16}, {X: 17, Y: 18}, {X: 19, Y: 20}, {X: 21, Y: 22}, {X: 23, Y: 24}},
			C: [4]api.Colour{{25, 26}, {27, 28}, {29, 30}, {31, 32}}},
		{Flag: 33, P: [16]api.Spot{{X: 34, Y: 35}, {X: 36, Y: 37}, {X: 38, Y: 39}, {X: 40, Y: 41}, {X: 42, Y: 43}, {X: 44, Y: 45}, {X: 46, Y: 47}, {X: 48, Y: 49}},
			C: [4]api.Colour{{50, 51}, {52, 53}}},
	}, counted(0, 54))
	seven := api.Layout{Type: 7, Coord: 8, Comp: 8, Flag: 8, Comps: 1}
	bothWays(t, seven, []api.Sheet{
		{P: [16]api.Spot{{X: 1, Y: 2}, {X: 3, Y: 4}, {X: 5, Y: 6}, {X: 7, Y: 8}, {X: 9, Y: 10}, {X: 11, Y: 12}, {X: 13, Y: 14}, {X: 15, Y: 16}, {X: 17, Y: 18}, {X: 19, Y: 20}, {X: 21, Y: 22}, {X: 23, Y: 24}, {X: 25, Y: 26}, {X: 27, Y: 28}, {X: 29, Y: 30}, {X: 31, Y: 32}},
			C: [4]api.Colour{{33}, {34}, {35}, {36}}},
		{Flag: 37, P: [16]api.Spot{{X: 38, Y: 39}, {X: 40, Y: 41}, {X: 42, Y: 43}, {X: 44, Y: 45}, {X: 46, Y: 47}, {X: 48, Y: 49}, {X: 50, Y: 51}, {X: 52, Y: 53}, {X: 54, Y: 55}, {X: 56, Y: 57}, {X: 58, Y: 59}, {X: 60, Y: 61}},
			C: [4]api.Colour{{62}, {63}}},
	}, counted(0, 64))
}

// P11.1, P11.2: sheets of few bits, written out, with the bits up to whole bytes; and of the most.
func TestBitsWrittenOut(t *testing.T) {
	x := [16]api.Spot{{X: 1}, {X: 1}, {X: 1}, {X: 1}, {X: 1}, {X: 1}, {X: 1}, {X: 1}}
	few := api.Layout{Type: 6, Coord: 1, Comp: 2, Flag: 2, Comps: 1}
	// 10 10101010 10101010 11 01, and noughts: 22 bits.
	two := api.Sheet{Flag: 2, P: x, C: [4]api.Colour{{3}, {1}}}
	// 00 10101010 10101010 01010101 11 00 01 10, and noughts: 34 bits.
	none := api.Sheet{P: x, C: [4]api.Colour{{3}, {0}, {1}, {2}}}
	none.P[8], none.P[9], none.P[10], none.P[11] = api.Spot{Y: 1}, api.Spot{Y: 1}, api.Spot{Y: 1}, api.Spot{Y: 1}
	bothWays(t, few, []api.Sheet{two, none, two}, []byte{
		0b10101010, 0b10101010, 0b10110100,
		0b00101010, 0b10101010, 0b10010101, 0b01110001, 0b10000000,
		0b10101010, 0b10101010, 0b10110100,
	})
	// Likewise of type 7, of flags of four bits: 1111 10101010 10101010 00000011 11 01 10 00, and noughts: 36 bits.
	few.Type, few.Flag, few.Comps = 7, 4, 2
	inner := api.Sheet{Flag: 15, P: x, C: [4]api.Colour{{3, 1}, {2, 0}}}
	inner.P[11] = api.Spot{X: 1, Y: 1}
	bothWays(t, few, []api.Sheet{inner}, []byte{0b11111010, 0b10101010, 0b10100000, 0b00111101, 0b10000000})
	// As many bits as there can be: 161 bytes, and 113.
	most := api.Layout{Type: 7, Coord: 32, Comp: 16, Flag: 8, Comps: 4}
	ones := []byte{0}
	ones = append(ones, slices.Repeat([]byte{255}, 160)...)
	ones = append(ones, slices.Repeat([]byte{255}, 113)...)
	bothWays(t, most, []api.Sheet{fullest(most, 0), fullest(most, 255)}, ones)
}

// P11.1: of all layouts sheets one behind the other: bytes that end with one, one byte less, and one more.
func TestGetOfEachLayout(t *testing.T) {
	seed := uint64(1)
	eachLayout(func(l api.Layout) {
		seed = stir(seed)
		b := strewnBytes(400, seed)
		for _, first := range []byte{0, 1} {
			b[0] = first << (8 - l.Flag)
			end := 0
			for end < 200 {
				end += sizeOf(l, flagOf(l, b[end]))
				if s := checkGet(t, l, b[:end]); len(s) == 0 {
					t.Errorf("%+v: no sheets of %x", l, b[:end])
				}
				refusesGet(t, l, b[:end-1], api.ErrShort)
				refusesGet(t, l, b[:end+1], api.ErrShort)
			}
		}
		for _, x := range []byte{0x00, 0xff, 0xaa, 0x55} {
			checkGet(t, l, slices.Repeat([]byte{x}, 2*sizeOf(l, flagOf(l, x))))
		}
	})
}

// P11.1: bytes that end anywhere.
func TestShort(t *testing.T) {
	for i, l := range aLayoutOfEachSize() {
		s := strewn(l, 6, uint64(2+i))
		b := checkPut(t, l, s)
		ends := map[int]int{0: 0}
		end := 0
		for k, x := range s {
			end += sizeOf(l, x.Flag)
			ends[end] = k + 1
		}
		for n := range len(b) + 1 {
			count, whole := ends[n]
			if !whole {
				refusesGet(t, l, b[:n], api.ErrShort)
			} else if got := checkGet(t, l, b[:n]); !slices.Equal(got, s[:count]) {
				t.Errorf("%+v: %d bytes: %v", l, n, got)
			}
		}
	}
}

// P11.2: of all layouts sheets that have room, alone and together.
func TestPutOfEachLayout(t *testing.T) {
	seed := uint64(3)
	eachLayout(func(l api.Layout) {
		seed = stir(seed)
		s := append(strewn(l, 5, seed), api.Sheet{}, api.Sheet{Flag: 3}, fullest(l, 0), fullest(l, uint8(greatest(l.Flag))))
		size := 0
		for _, x := range s {
			size += len(checkPut(t, l, []api.Sheet{x}))
		}
		if b := checkPut(t, l, s); len(b) != size {
			t.Errorf("%+v: %d bytes together, %d alone", l, len(b), size)
		}
		slices.Reverse(s)
		checkPut(t, l, s)
	})
}

// P11.1, P11.2: no bytes, and no sheets, are none of each other, and no error.
func TestNone(t *testing.T) {
	eachLayout(func(l api.Layout) {
		for _, b := range [][]byte{nil, {}} {
			if s, e := sheets.Get(l, b); len(s) != 0 || e != api.OK {
				t.Errorf("Get(%+v, none): %v, %v", l, s, e)
			}
		}
		for _, s := range [][]api.Sheet{nil, {}} {
			if b, e := sheets.Put(l, s); len(b) != 0 || e != api.OK {
				t.Errorf("Put(%+v, none): %v, %v", l, b, e)
			}
		}
	})
}

// P11.1, P11.2: each flag that there may be: those above 3 are like 1, but are told as they are.
func TestEachFlag(t *testing.T) {
	for _, kind := range []int{6, 7} {
		for _, n := range flagBits {
			l := api.Layout{Type: kind, Coord: 4, Comp: 12, Flag: n, Comps: 3}
			one := checkPut(t, l, []api.Sheet{fullest(l, 1)})
			var all []api.Sheet
			for flag := int(greatest(n)); flag >= 0; flag-- {
				s := fullest(l, uint8(flag))
				b := checkPut(t, l, []api.Sheet{s})
				if flag > 0 && len(b) != len(one) {
					t.Errorf("%+v: %d bytes of the flag %d, not %d", l, len(b), flag, len(one))
				}
				bothWays(t, l, []api.Sheet{s}, b)
				all = append(all, s)
			}
			if got := checkGet(t, l, checkPut(t, l, all)); !slices.Equal(got, all) {
				t.Errorf("%+v: not all flags are got", l)
			}
		}
	}
}

// P11.2: each flag that needs more bits than the layout's.
func TestFlagsWithoutRoom(t *testing.T) {
	for _, kind := range []int{6, 7} {
		for _, n := range []int{2, 4} {
			l := api.Layout{Type: kind, Coord: 8, Comp: 8, Flag: n, Comps: 1}
			for flag := 1 << n; flag < 256; flag++ {
				refusesPut(t, l, []api.Sheet{{Flag: uint8(flag)}}, api.ErrArg)
				refusesPut(t, l, []api.Sheet{{}, {Flag: 1}, {Flag: uint8(flag)}}, api.ErrArg)
			}
			checkPut(t, l, []api.Sheet{{Flag: 1<<n - 1}})
		}
	}
}

// P11.2: each number that needs just as many bits as there are, and one more, alone and among others; with no bits what is not told.
func TestRoom(t *testing.T) {
	flags := []uint8{0, 1, 3}
	eachLayout(func(l api.Layout) {
		// Each of the flags with each of the layout's numbers, but not with all of them at once.
		flags = append(flags[1:], flags[0])
		flag := flags[0]
		full := fullest(l, flag)
		size := sizeOf(l, flag)
		for i, n := range numbersOf(l, flag) {
			s := api.Sheet{Flag: flag}
			n.set(&s, greatest(n.bits))
			if b, e := sheets.Put(l, []api.Sheet{s, full}); e != api.OK || len(b) != 2*size {
				t.Errorf("%+v: %s of %d bits: %d bytes, %v", l, n.name, n.bits, len(b), e)
			}
			for _, v := range tooGreat(n.bits, n.top) {
				n.set(&s, v)
				refusesPut(t, l, []api.Sheet{s}, api.ErrArg)
			}
			if n.bits < n.top {
				other := full
				n.set(&other, 1<<n.bits)
				refusesPut(t, l, slices.Insert([]api.Sheet{full, full}, i%3, other), api.ErrArg)
			}
		}
	})
}

// P11.2: of each flag just the points and colours that it has may be told.
func TestWhatIsNotTold(t *testing.T) {
	for _, kind := range []int{6, 7} {
		for comps := 1; comps <= 4; comps++ {
			l := api.Layout{Type: kind, Coord: 8, Comp: 8, Flag: 8, Comps: comps}
			for flag := range 256 {
				told := 0
				for _, n := range numbersOf(l, uint8(flag)) {
					s := api.Sheet{Flag: uint8(flag)}
					n.set(&s, 1)
					_, e := sheets.Put(l, []api.Sheet{s})
					if e == api.OK {
						told++
					}
					if want := n.bits == 0; (e == api.ErrArg) != want || e != api.OK && !want {
						t.Errorf("%+v: flag %d with %s: %v", l, flag, n.name, e)
					}
				}
				want := map[int]int{6: 16 + 2*comps, 7: 24 + 2*comps}[kind]
				if flag == 0 {
					want += 8 + 2*comps
				}
				if told != want {
					t.Errorf("%+v: the flag %d tells %d numbers, not %d", l, flag, told, want)
				}
			}
		}
	}
}

// P11.1, P11.2: numbers are raw, and rows are of vertices: of the layout's ranges, and of Row, nothing is asked.
func TestWhatIsNotAsked(t *testing.T) {
	l := api.Layout{Type: 7, Coord: 8, Comp: 8, Flag: 8, Comps: 1}
	s := strewn(l, 3, 5)
	b := checkPut(t, l, s)
	for _, r := range []api.Range{{}, {Lo: 7, Hi: 7}, {Lo: 1, Hi: 0}, {Lo: math.MinInt32, Hi: math.MaxInt32}} {
		l.X, l.Y, l.C = r, r, [4]api.Range{r, r, r, r}
		bothWays(t, l, s, b)
	}
	for _, row := range []int{0, 1, 2, -1, math.MinInt, math.MaxInt} {
		l.Row = row
		bothWays(t, l, s, b)
	}
}

// filling: sheets of the flags 0 and 1 that are so many bytes, or nearly so, but not more; and these bytes.
func filling(t *testing.T, l api.Layout, bytes int, seed uint64) ([]api.Sheet, []byte) {
	zero, one := sizeOf(l, 0), sizeOf(l, 1)
	zeros, rest := 0, bytes
	for n := range min(one, bytes/zero) {
		if left := (bytes - n*zero) % one; left < rest {
			zeros, rest = n, left
		}
	}
	ones := (bytes - zeros*zero) / one
	samples := strewn(l, 2, seed)
	first, second := checkPut(t, l, samples[:1]), checkPut(t, l, samples[1:])
	s := append(slices.Repeat(samples[:1], zeros), slices.Repeat(samples[1:], ones)...)
	return s, append(slices.Repeat(first, zeros), slices.Repeat(second, ones)...)
}

// P11.1, P11.2: as many bytes as MaxBytes, or nearly so, and more.
func TestMostBytes(t *testing.T) {
	exact := 0
	for i, l := range aLayoutOfEachSize() {
		s, b := filling(t, l, mostBytes, uint64(6+i))
		if put, e := sheets.Put(l, s); e != api.OK || !slices.Equal(put, b) {
			t.Errorf("%+v: %d sheets of %d bytes: %d, %v", l, len(s), len(b), len(put), e)
		}
		if got, e := sheets.Get(l, b); e != api.OK || !slices.Equal(got, s) {
			t.Errorf("%+v: %d bytes of %d sheets: %d, %v", l, len(b), len(s), len(got), e)
		}
		rest := mostBytes - len(b)
		if rest == 0 {
			exact++
		} else {
			refusesGet(t, l, slices.Concat(b, make([]byte, rest)), api.ErrShort)
		}
		refusesGet(t, l, b[:len(b)-1], api.ErrShort)
		refusesGet(t, l, slices.Concat(b, make([]byte, rest+1)), api.ErrLimit)
		refusesGet(t, l, slices.Concat(b, b), api.ErrLimit)
		for _, more := range []api.Sheet{{}, {Flag: 1}} {
			refusesPut(t, l, append(slices.Clip(s), more), api.ErrLimit)
		}
		refusesPut(t, l, slices.Insert(s, len(s)/2, s[0], s[1]), api.ErrLimit)
	}
	if exact < 10 {
		t.Errorf("just %d layouts fill MaxBytes", exact)
	}
}

// P11.1, P11.2: one byte more than MaxBytes, of whole sheets.
func TestOneByteMore(t *testing.T) {
	exact := 0
	for i, l := range aLayoutOfEachSize() {
		s, b := filling(t, l, mostBytes+1, uint64(50+i))
		if len(b) <= mostBytes {
			continue
		}
		exact++
		refusesPut(t, l, s, api.ErrLimit)
		refusesGet(t, l, b, api.ErrLimit)
	}
	if exact < 10 {
		t.Errorf("just %d layouts have sheets of one byte more", exact)
	}
}

// P11.1: too many bytes are told ahead of those that end within a sheet, by one byte too.
func TestTooManyAheadOfShort(t *testing.T) {
	for _, l := range aLayoutOfEachSize() {
		for _, x := range []byte{0, 1, 255} {
			refusesGet(t, l, slices.Repeat([]byte{x}, mostBytes+1), api.ErrLimit)
			refusesGet(t, l, slices.Repeat([]byte{x}, mostBytes+sizeOf(l, flagOf(l, x))), api.ErrLimit)
		}
	}
}

// P11.2: a sheet without room is told ahead of too many, wherever it stands.
func TestNoRoomAheadOfTooMany(t *testing.T) {
	for i, l := range aLayoutOfEachSize() {
		s := make([]api.Sheet, mostBytes/sizeOf(l, 0)+2)
		numbers := numbersOf(l, 0)
		for k := i % 5; k < len(numbers); k += 5 {
			n := numbers[k]
			if n.bits == n.top {
				continue
			}
			at := []int{0, len(s) / 2, len(s) - 2, len(s) - 1}[(i+k)%4]
			n.set(&s[at], 1<<n.bits)
			refusesPut(t, l, s, api.ErrArg)
			n.set(&s[at], 0)
		}
		refusesPut(t, l, s, api.ErrLimit)
		if l.Flag < 8 {
			s[len(s)-1].Flag = 1 << l.Flag
			refusesPut(t, l, s, api.ErrArg)
		}
	}
}

// P11.1, P11.2: layouts that may not be, and those of other types, whatever else is handed in: ErrForm is told ahead of all.
func TestWrongLayouts(t *testing.T) {
	bytes := [][]byte{nil, {}, {1}, make([]byte, 29), make([]byte, mostBytes), make([]byte, mostBytes+1)}
	wrong := fullest(api.Layout{Type: 7, Coord: 32, Comp: 16, Flag: 8, Comps: 4}, 0)
	wrong.Flag = 255
	lists := [][]api.Sheet{nil, {}, {{}}, {wrong}, make([]api.Sheet, mostBytes/3+1)}
	for _, l := range wrongLayouts() {
		for _, b := range bytes {
			refusesGet(t, l, b, api.ErrForm)
		}
		for _, s := range lists {
			refusesPut(t, l, s, api.ErrForm)
		}
	}
}

// P11.1, P11.2: types 4 and 5 are not told here, of all bits that may be.
func TestVerticesAreNotTold(t *testing.T) {
	eachLayout(func(l api.Layout) {
		l.Row = 2
		for _, kind := range []int{0, 4, 5, 8} {
			l.Type = kind
			refusesGet(t, l, nil, api.ErrForm)
			refusesGet(t, l, make([]byte, 161), api.ErrForm)
			refusesPut(t, l, nil, api.ErrForm)
			refusesPut(t, l, make([]api.Sheet, 2), api.ErrForm)
		}
	})
}
