package sheets_test

import (
	"math"
	"slices"
	"strconv"
	"strings"
	"testing"

	"gouache/api"
	"gouache/sheets"
)

// mostBytes: the document's MaxBytes, written out.
const mostBytes = 65536

// The document's own lists of bits.
var (
	coordBits = []int{1, 2, 4, 8, 12, 16, 24, 32}
	compBits  = []int{1, 2, 4, 8, 12, 16}
	flagBits  = []int{2, 4, 8}
)

// eachLayout of types 6 and 7: all bits and numbers of colours that may be.
func eachLayout(see func(api.Layout)) {
	for _, kind := range []int{6, 7} {
		for _, coord := range coordBits {
			for _, comp := range compBits {
				for _, flag := range flagBits {
					for comps := 1; comps <= 4; comps++ {
						see(api.Layout{Type: kind, Coord: coord, Comp: comp, Flag: flag, Comps: comps})
					}
				}
			}
		}
	}
}

// pointsOf a sheet, coloursOf it: how many are told, as the document lists them.
func pointsOf(l api.Layout, flag uint8) int {
	switch {
	case flag == 0 && l.Type == 6:
		return 12
	case flag == 0:
		return 16
	case l.Type == 6:
		return 8
	}
	return 12
}

func coloursOf(flag uint8) int {
	if flag == 0 {
		return 4
	}
	return 2
}

// bareBits of a sheet, without those up to whole bytes.
func bareBits(l api.Layout, flag uint8) int {
	return l.Flag + 2*pointsOf(l, flag)*l.Coord + coloursOf(flag)*l.Comps*l.Comp
}

// sizeOf a sheet in bytes.
func sizeOf(l api.Layout, flag uint8) int {
	n := bareBits(l, flag)
	for n%8 != 0 {
		n++
	}
	return n / 8
}

// textOf: a number in so many bits, each one a letter; all of its own, if it needs more.
func textOf(v uint32, n int) string {
	if n == 0 && v == 0 {
		return ""
	}
	s := strconv.FormatUint(uint64(v), 2)
	return strings.Repeat("0", max(n-len(s), 0)) + s
}

// sheetText: a sheet in bits, up to whole bytes: the document's words, as letters. Not ok: it has no room.
func sheetText(l api.Layout, s api.Sheet) (string, bool) {
	var out strings.Builder
	ok := true
	number := func(v uint32, n int) {
		x := textOf(v, n)
		ok = ok && len(x) == n
		out.WriteString(x)
	}
	number(uint32(s.Flag), l.Flag)
	for i, p := range s.P {
		if i >= pointsOf(l, s.Flag) {
			ok = ok && p == api.Spot{}
			continue
		}
		number(p.X, l.Coord)
		number(p.Y, l.Coord)
	}
	for i, c := range s.C {
		if i >= coloursOf(s.Flag) {
			ok = ok && c == api.Colour{}
			continue
		}
		for k, v := range c {
			if k >= l.Comps {
				ok = ok && v == 0
				continue
			}
			number(uint32(v), l.Comp)
		}
	}
	for out.Len()%8 != 0 {
		out.WriteString("0")
	}
	return out.String(), ok
}

// wantPut: P11.2, of a layout that may be.
func wantPut(l api.Layout, s []api.Sheet) ([]byte, api.Errno) {
	var out []byte
	for _, x := range s {
		text, ok := sheetText(l, x)
		if !ok {
			return nil, api.ErrArg
		}
		for ; text != ""; text = text[8:] {
			n, _ := strconv.ParseUint(text[:8], 2, 8)
			out = append(out, byte(n))
		}
	}
	if len(out) > mostBytes {
		return nil, api.ErrLimit
	}
	return out, api.OK
}

// sheetOf: what stands in a sheet's bytes.
func sheetOf(l api.Layout, b []byte) api.Sheet {
	var text strings.Builder
	for _, x := range b {
		text.WriteString(textOf(uint32(x), 8))
	}
	bits := text.String()
	number := func(n int) uint32 {
		v, _ := strconv.ParseUint(bits[:n], 2, 32)
		bits = bits[n:]
		return uint32(v)
	}
	s := api.Sheet{Flag: uint8(number(l.Flag))}
	for i := range pointsOf(l, s.Flag) {
		s.P[i].X = number(l.Coord)
		s.P[i].Y = number(l.Coord)
	}
	for i := range coloursOf(s.Flag) {
		for k := range l.Comps {
			s.C[i][k] = uint16(number(l.Comp))
		}
	}
	return s
}

// flagOf a sheet's first byte.
func flagOf(l api.Layout, b byte) uint8 {
	n, _ := strconv.ParseUint(textOf(uint32(b), 8)[:l.Flag], 2, 8)
	return uint8(n)
}

// wantGet: P11.1, of a layout that may be.
func wantGet(l api.Layout, b []byte) ([]api.Sheet, api.Errno) {
	if len(b) > mostBytes {
		return nil, api.ErrLimit
	}
	var out []api.Sheet
	for len(b) > 0 {
		size := sizeOf(l, flagOf(l, b[0]))
		if len(b) < size {
			return nil, api.ErrShort
		}
		out = append(out, sheetOf(l, b[:size]))
		b = b[size:]
	}
	return out, api.OK
}

// checkGet: Get's answer is that of the document; what it was handed stays as it was.
func checkGet(t *testing.T, l api.Layout, b []byte) []api.Sheet {
	t.Helper()
	before := slices.Clone(b)
	s, e := sheets.Get(l, b)
	want, f := wantGet(l, b)
	if e != f || !slices.Equal(s, want) {
		t.Fatalf("Get(%+v, %d bytes %x..): %d sheets %v.., %v, not %d %v.., %v", l, len(b), b[:min(len(b), 40)], len(s), s[:min(len(s), 1)], e, len(want), want[:min(len(want), 1)], f)
	}
	if !slices.Equal(b, before) {
		t.Fatalf("Get(%+v) changed the bytes", l)
	}
	if cap(s) != len(s) || e != api.OK && s != nil {
		t.Fatalf("Get(%+v, %d bytes): %d sheets, %v, with room for %d", l, len(b), len(s), e, cap(s))
	}
	return s
}

// checkPut: likewise.
func checkPut(t *testing.T, l api.Layout, s []api.Sheet) []byte {
	t.Helper()
	before := slices.Clone(s)
	b, e := sheets.Put(l, s)
	want, f := wantPut(l, s)
	if e != f || !slices.Equal(b, want) {
		t.Fatalf("Put(%+v, %d sheets %v..): %d bytes %x.., %v, not %d %x.., %v", l, len(s), s[:min(len(s), 2)], len(b), b[:min(len(b), 40)], e, len(want), want[:min(len(want), 40)], f)
	}
	if !slices.Equal(s, before) {
		t.Fatalf("Put(%+v) changed the sheets", l)
	}
	if cap(b) != len(b) || e != api.OK && b != nil {
		t.Fatalf("Put(%+v, %d sheets): %d bytes, %v, with room for %d", l, len(s), len(b), e, cap(b))
	}
	return b
}

// bothWays: the sheets are those bytes, and the bytes those sheets.
func bothWays(t *testing.T, l api.Layout, s []api.Sheet, b []byte) {
	t.Helper()
	if got, e := sheets.Put(l, s); e != api.OK || !slices.Equal(got, b) {
		t.Errorf("Put(%+v, %v): %x, %v, not %x", l, s, got, e, b)
	}
	if got, e := sheets.Get(l, b); e != api.OK || !slices.Equal(got, s) {
		t.Errorf("Get(%+v, %x): %v, %v, not %v", l, b, got, e, s)
	}
}

// refusesGet: Get answers that error, and nothing.
func refusesGet(t *testing.T, l api.Layout, b []byte, want api.Errno) {
	t.Helper()
	if s, e := sheets.Get(l, b); e != want || s != nil {
		t.Errorf("Get(%+v, %d bytes): %d sheets, %v, not %v", l, len(b), len(s), e, want)
	}
}

// refusesPut: likewise.
func refusesPut(t *testing.T, l api.Layout, s []api.Sheet, want api.Errno) {
	t.Helper()
	if b, e := sheets.Put(l, s); e != want || b != nil {
		t.Errorf("Put(%+v, %d sheets %v..): %d bytes, %v, not %v", l, len(s), s[:min(len(s), 3)], len(b), e, want)
	}
}

// stir: a number from the one before it, the same in each run.
func stir(n uint64) uint64 {
	n ^= n << 13
	n ^= n >> 7
	return n ^ n<<17
}

// strewnBytes: so many bytes, in no order.
func strewnBytes(count int, seed uint64) []byte {
	out := make([]byte, count)
	for i := range out {
		seed = stir(seed)
		out[i] = byte(seed >> 40)
	}
	return out
}

// greatest: the greatest number of so many bits.
func greatest(n int) uint32 { return uint32(uint64(1)<<n - 1) }

// number of a sheet: how many bits it has, how many it could be told in, and how it is set.
type number struct {
	name      string
	bits, top int
	set       func(*api.Sheet, uint32)
}

// numbersOf a sheet of that flag, but for the flag: all, in their order, those that it doesn't tell with no bits.
func numbersOf(l api.Layout, flag uint8) []number {
	var out []number
	bits := func(n int, is bool) int {
		if is {
			return n
		}
		return 0
	}
	for i := range 16 {
		n := bits(l.Coord, i < pointsOf(l, flag))
		at := " of point " + strconv.Itoa(i)
		out = append(out,
			number{"X" + at, n, 32, func(s *api.Sheet, v uint32) { s.P[i].X = v }},
			number{"Y" + at, n, 32, func(s *api.Sheet, v uint32) { s.P[i].Y = v }})
	}
	for i := range 4 {
		for k := range 4 {
			n := bits(l.Comp, i < coloursOf(flag) && k < l.Comps)
			name := "number " + strconv.Itoa(k) + " of colour " + strconv.Itoa(i)
			out = append(out, number{name, n, 16, func(s *api.Sheet, v uint32) { s.C[i][k] = uint16(v) }})
		}
	}
	return out
}

// fullest: the sheet of that flag all of whose other numbers are the greatest that have room.
func fullest(l api.Layout, flag uint8) api.Sheet {
	s := api.Sheet{Flag: flag}
	for _, n := range numbersOf(l, flag) {
		n.set(&s, greatest(n.bits))
	}
	return s
}

// strewn: so many sheets that have room, in no order; the first two of the flags 0 and 1.
func strewn(l api.Layout, count int, seed uint64) []api.Sheet {
	next := func(n int) uint32 {
		seed = stir(seed)
		return uint32(seed>>24) & greatest(n)
	}
	out := make([]api.Sheet, count)
	for i := range out {
		flag := uint8(i)
		if i > 1 {
			flag = uint8(next(l.Flag)) >> (next(1) * 6)
		}
		out[i].Flag = flag
		for _, n := range numbersOf(l, flag) {
			n.set(&out[i], next(n.bits))
		}
	}
	return out
}

// tooGreat for so many bits: the least such number, some, and the greatest.
func tooGreat(bits, top int) []uint32 {
	if bits >= top {
		return nil
	}
	return []uint32{1 << bits, 1<<bits | 1, greatest(bits + 1), 1 << (top - 1), greatest(top)}
}

// aLayoutOfEachSize that a sheet of the flag 0 may have, of type 6, and of type 7.
func aLayoutOfEachSize() []api.Layout {
	var out []api.Layout
	seen := map[[2]int]bool{}
	eachLayout(func(l api.Layout) {
		if size := [2]int{l.Type, sizeOf(l, 0)}; !seen[size] {
			seen[size] = true
			out = append(out, l)
		}
	})
	return out
}

// wrongLayouts: those that may not be, for one field alone, and those of other types.
func wrongLayouts() []api.Layout {
	var out []api.Layout
	for _, kind := range []int{6, 7} {
		plain := api.Layout{Type: kind, Coord: 8, Comp: 8, Flag: 8, Comps: 1, Row: 2}
		with := func(change func(*api.Layout, int), numbers ...int) {
			for _, n := range numbers {
				l := plain
				change(&l, n)
				out = append(out, l)
			}
		}
		with(func(l *api.Layout, n int) { l.Type = n }, 4, 5, 8, 3, 0, -6, -7, math.MinInt, math.MaxInt)
		with(func(l *api.Layout, n int) { l.Coord = n }, 0, 3, 5, 7, 9, 15, 20, 31, 33, -1, -8, math.MinInt, math.MaxInt)
		with(func(l *api.Layout, n int) { l.Comp = n }, 0, 3, 5, 7, 9, 15, 17, 24, 32, -1, -8, math.MinInt, math.MaxInt)
		with(func(l *api.Layout, n int) { l.Comps = n }, 0, 5, -1, 8, math.MinInt, math.MaxInt)
		with(func(l *api.Layout, n int) { l.Flag = n }, 0, 1, 3, 5, 7, 9, 12, 16, -2, math.MinInt, math.MaxInt)
	}
	return append(out, api.Layout{})
}
