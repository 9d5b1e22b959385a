package records_test

import (
	"math"
	"slices"
	"strconv"
	"strings"
	"testing"

	"gouache/api"
	"gouache/records"
)

// mostBytes: the document's MaxBytes, written out.
const mostBytes = 65536

// The document's own lists of bits.
var (
	coordBits = []int{1, 2, 4, 8, 12, 16, 24, 32}
	compBits  = []int{1, 2, 4, 8, 12, 16}
	flagBits  = []int{2, 4, 8}
)

// eachLayout of types 4 and 5: all bits and numbers of colours that may be. (Of type 5 no flag is told: other bits for it stand there, which may be all the same.)
func eachLayout(see func(api.Layout)) {
	for _, coord := range coordBits {
		for _, comp := range compBits {
			for comps := 1; comps <= 4; comps++ {
				for _, flag := range flagBits {
					see(api.Layout{Type: 4, Coord: coord, Comp: comp, Flag: flag, Comps: comps})
				}
				for _, flag := range []int{0, 8} {
					see(api.Layout{Type: 5, Coord: coord, Comp: comp, Flag: flag, Comps: comps, Row: 2})
				}
			}
		}
	}
}

// flagsOf a layout's records: bits of their flag.
func flagsOf(l api.Layout) int {
	if l.Type == 5 {
		return 0
	}
	return l.Flag
}

// sizeOf a record in bytes, counted by its numbers.
func sizeOf(l api.Layout) int {
	n := flagsOf(l) + l.Coord + l.Coord
	for range l.Comps {
		n += l.Comp
	}
	for n%8 != 0 {
		n++
	}
	return n / 8
}

// textOf: a number in so many bits, each one a letter; all of its own, if it needs more.
func textOf(v uint32, n int) string {
	if n == 0 && v == 0 {
		return ""
	}
	s := strconv.FormatUint(uint64(v), 2)
	return strings.Repeat("0", max(n-len(s), 0)) + s
}

// recordText: a record in bits, up to whole bytes: the document's words, as letters. Not ok: it has no room.
func recordText(l api.Layout, r api.Rec) (string, bool) {
	ok := true
	number := func(v uint32, n int) string {
		s := textOf(v, n)
		ok = ok && len(s) == n
		return s
	}
	s := number(uint32(r.Flag), flagsOf(l)) + number(r.P.X, l.Coord) + number(r.P.Y, l.Coord)
	for i, c := range r.C {
		n := l.Comp
		if i >= l.Comps {
			n = 0
		}
		s += number(uint32(c), n)
	}
	for len(s)%8 != 0 {
		s += "0"
	}
	return s, ok
}

// wantPut: P9.2, of a layout that may be.
func wantPut(l api.Layout, v []api.Rec) ([]byte, api.Errno) {
	var out []byte
	for _, r := range v {
		s, ok := recordText(l, r)
		if !ok {
			return nil, api.ErrArg
		}
		for ; s != ""; s = s[8:] {
			n, _ := strconv.ParseUint(s[:8], 2, 8)
			out = append(out, byte(n))
		}
	}
	if len(out) > mostBytes {
		return nil, api.ErrLimit
	}
	return out, api.OK
}

// recordOf: what stands in a record's bytes.
func recordOf(l api.Layout, b []byte) api.Rec {
	s := ""
	for _, x := range b {
		s += textOf(uint32(x), 8)
	}
	number := func(n int) uint32 {
		if n == 0 {
			return 0
		}
		v, _ := strconv.ParseUint(s[:n], 2, 32)
		s = s[n:]
		return uint32(v)
	}
	r := api.Rec{Flag: uint8(number(flagsOf(l)))}
	r.P.X = number(l.Coord)
	r.P.Y = number(l.Coord)
	for i := range l.Comps {
		r.C[i] = uint16(number(l.Comp))
	}
	return r
}

// wantGet: P9.1, of a layout that may be.
func wantGet(l api.Layout, b []byte) ([]api.Rec, api.Errno) {
	if len(b) > mostBytes {
		return nil, api.ErrLimit
	}
	var out []api.Rec
	for size := sizeOf(l); len(b) > 0; b = b[size:] {
		if len(b) < size {
			return nil, api.ErrShort
		}
		out = append(out, recordOf(l, b[:size]))
	}
	return out, api.OK
}

// checkGet: Get's answer is that of the document; what it was handed stays as it was.
func checkGet(t *testing.T, l api.Layout, b []byte) []api.Rec {
	t.Helper()
	before := slices.Clone(b)
	v, e := records.Get(l, b)
	want, f := wantGet(l, b)
	if e != f || !slices.Equal(v, want) {
		t.Fatalf("Get(%+v, %d bytes %x..): %d records, %v, not %d, %v", l, len(b), b[:min(len(b), 40)], len(v), e, len(want), f)
	}
	if !slices.Equal(b, before) {
		t.Fatalf("Get(%+v) changed the bytes", l)
	}
	if cap(v) != len(v) || e != api.OK && v != nil {
		t.Fatalf("Get(%+v, %d bytes): %d records, %v, with room for %d", l, len(b), len(v), e, cap(v))
	}
	return v
}

// checkPut: likewise.
func checkPut(t *testing.T, l api.Layout, v []api.Rec) []byte {
	t.Helper()
	before := slices.Clone(v)
	b, e := records.Put(l, v)
	want, f := wantPut(l, v)
	if e != f || !slices.Equal(b, want) {
		t.Fatalf("Put(%+v, %d records %v..): %d bytes %x.., %v, not %d, %v", l, len(v), v[:min(len(v), 4)], len(b), b[:min(len(b), 40)], e, len(want), f)
	}
	if !slices.Equal(v, before) {
		t.Fatalf("Put(%+v) changed the records", l)
	}
	if cap(b) != len(b) || e != api.OK && b != nil {
		t.Fatalf("Put(%+v, %d records): %d bytes, %v, with room for %d", l, len(v), len(b), e, cap(b))
	}
	return b
}

// refusesGet: Get answers that error, and nothing.
func refusesGet(t *testing.T, l api.Layout, b []byte, want api.Errno) {
	t.Helper()
	if v, e := records.Get(l, b); e != want || v != nil {
		t.Errorf("Get(%+v, %d bytes): %d records, %v, not %v", l, len(b), len(v), e, want)
	}
}

// refusesPut: likewise.
func refusesPut(t *testing.T, l api.Layout, v []api.Rec, want api.Errno) {
	t.Helper()
	if b, e := records.Put(l, v); e != want || b != nil {
		t.Errorf("Put(%+v, %d records %v..): %x, %v, not %v", l, len(v), v[:min(len(v), 4)], b, e, want)
	}
}

// stir: a number from the one before it, the same in each run.
func stir(n uint64) uint64 {
	n ^= n << 13
	n ^= n >> 7
	return n ^ n<<17
}

// strewnBytes: so many bytes, in no order.
func strewnBytes(count int, seed uint64) []byte {
	out := make([]byte, count)
	for i := range out {
		seed = stir(seed)
		out[i] = byte(seed >> 40)
	}
	return out
}

// greatest: the greatest number of so many bits.
func greatest(n int) uint32 { return uint32(uint64(1)<<n - 1) }

// strewn: so many records that have room, in no order.
func strewn(l api.Layout, count int, seed uint64) []api.Rec {
	next := func(n int) uint32 {
		seed = stir(seed)
		return uint32(seed>>24) & greatest(n)
	}
	out := make([]api.Rec, count)
	for i := range out {
		out[i].Flag = uint8(next(flagsOf(l)))
		out[i].P = api.Spot{X: next(l.Coord), Y: next(l.Coord)}
		for k := range l.Comps {
			out[i].C[k] = uint16(next(l.Comp))
		}
	}
	return out
}

// number of a record: how many bits it has, how many it could be told in, and how it is set.
type number struct {
	name      string
	bits, top int
	set       func(*api.Rec, uint32)
}

// numbersOf a record: all, those that the layout doesn't tell with no bits.
func numbersOf(l api.Layout) []number {
	out := []number{
		{"flag", flagsOf(l), 8, func(r *api.Rec, v uint32) { r.Flag = uint8(v) }},
		{"X", l.Coord, 32, func(r *api.Rec, v uint32) { r.P.X = v }},
		{"Y", l.Coord, 32, func(r *api.Rec, v uint32) { r.P.Y = v }},
	}
	for i := range 4 {
		n := l.Comp
		if i >= l.Comps {
			n = 0
		}
		out = append(out, number{"colour " + strconv.Itoa(i), n, 16, func(r *api.Rec, v uint32) { r.C[i] = uint16(v) }})
	}
	return out
}

// fullest: the record all of whose numbers are the greatest that have room.
func fullest(l api.Layout) api.Rec {
	var r api.Rec
	for _, n := range numbersOf(l) {
		n.set(&r, greatest(n.bits))
	}
	return r
}

// tooGreat for so many bits: the least such number, some, and the greatest.
func tooGreat(bits, top int) []uint32 {
	if bits >= top {
		return nil
	}
	return []uint32{1 << bits, 1<<bits | 1, greatest(bits + 1), 1 << (top - 1), greatest(top)}
}

// aLayoutOfEachSize that a record may have, of type 4, and of type 5.
func aLayoutOfEachSize() []api.Layout {
	var out []api.Layout
	for _, kind := range []int{4, 5} {
		seen := map[int]bool{}
		eachLayout(func(l api.Layout) {
			if size := sizeOf(l); l.Type == kind && !seen[size] {
				seen[size] = true
				out = append(out, l)
			}
		})
	}
	return out
}

// wrongLayouts: those that may not be, for one field alone, and those of other types.
func wrongLayouts() []api.Layout {
	var out []api.Layout
	for _, kind := range []int{4, 5} {
		plain := api.Layout{Type: kind, Coord: 8, Comp: 8, Flag: 8, Comps: 1, Row: 2}
		with := func(change func(*api.Layout, int), numbers ...int) {
			for _, n := range numbers {
				l := plain
				change(&l, n)
				out = append(out, l)
			}
		}
		with(func(l *api.Layout, n int) { l.Type = n }, 3, 6, 7, 8, 0, -4, -5, math.MinInt, math.MaxInt)
		with(func(l *api.Layout, n int) { l.Coord = n }, 0, 3, 5, 7, 9, 15, 20, 31, 33, -1, -8, math.MinInt, math.MaxInt)
		with(func(l *api.Layout, n int) { l.Comp = n }, 0, 3, 5, 7, 9, 15, 17, 24, 32, -1, -8, math.MinInt, math.MaxInt)
		with(func(l *api.Layout, n int) { l.Comps = n }, 0, 5, -1, 8, math.MinInt, math.MaxInt)
		if kind == 4 {
			with(func(l *api.Layout, n int) { l.Flag = n }, 0, 1, 3, 5, 7, 9, 12, 16, -2, math.MinInt, math.MaxInt)
		} else {
			with(func(l *api.Layout, n int) { l.Row = n }, 1, 0, -1, -2, math.MinInt)
		}
	}
	return append(out, api.Layout{})
}
