package records_test

import (
	"slices"
	"testing"

	"gouache/api"
	"gouache/records"
)

// P9.3: what is put is got.
func TestPutIsGot(t *testing.T) {
	seed := uint64(11)
	eachLayout(func(l api.Layout) {
		seed = stir(seed)
		v := append(strewn(l, 7, seed), fullest(l), api.Rec{})
		b, e := records.Put(l, v)
		if e != api.OK {
			t.Fatalf("Put(%+v, %v): %v", l, v, e)
		}
		if got, e := records.Get(l, b); e != api.OK || !slices.Equal(got, v) {
			t.Errorf("%+v: put %v, got %v, %v", l, v, got, e)
		}
	})
}

// bare: the bytes, with noughts for the bits up to whole bytes.
func bare(l api.Layout, b []byte) []byte {
	out := slices.Clone(b)
	spare := sizeOf(l)*8 - flagsOf(l) - 2*l.Coord - l.Comps*l.Comp
	for at := sizeOf(l) - 1; at < len(out); at += sizeOf(l) {
		out[at] = out[at] >> spare << spare
	}
	return out
}

// P9.3: of bytes that Get takes Put makes these again, but for the bits up to whole bytes, which are noughts then.
func TestGotIsPut(t *testing.T) {
	seed := uint64(12)
	eachLayout(func(l api.Layout) {
		seed = stir(seed)
		n := 6 * sizeOf(l)
		for _, b := range [][]byte{strewnBytes(n, seed), make([]byte, n), slices.Repeat([]byte{0xff}, n)} {
			v, e := records.Get(l, b)
			if e != api.OK {
				t.Fatalf("Get(%+v, %x): %v", l, b, e)
			}
			if got, e := records.Put(l, v); e != api.OK || !slices.Equal(got, bare(l, b)) {
				t.Errorf("%+v: got from %x, put %x, %v", l, b, got, e)
			}
		}
	})
}

// P9.1, P9.3: whatever stands in the bits up to whole bytes, the records are the same.
func TestSpareBits(t *testing.T) {
	l := api.Layout{Type: 4, Coord: 1, Comp: 1, Flag: 2, Comps: 1} // 5 bits
	for x := range 256 {
		b := []byte{byte(x), 0xff, byte(x)}
		v := checkGet(t, l, b)
		if len(v) != 3 || v[0] != v[2] || v[0] != checkGet(t, l, []byte{byte(x) &^ 7})[0] {
			t.Errorf("%x: %v", b, v)
		}
		if got := checkPut(t, l, v); !slices.Equal(got, []byte{byte(x) &^ 7, 0xf8, byte(x) &^ 7}) {
			t.Errorf("%x is put as %x", b, got)
		}
	}
}

// P9.3: each list that has room has just one row of bytes: all records of few bits, alone, have bytes of their own.
func TestOneRowOfBytes(t *testing.T) {
	for _, l := range []api.Layout{
		{Type: 4, Coord: 1, Comp: 1, Flag: 2, Comps: 1},         // 5 bits
		{Type: 4, Coord: 1, Comp: 1, Flag: 4, Comps: 2},         // 8 bits
		{Type: 5, Coord: 2, Comp: 1, Comps: 4, Row: 2},          // 8 bits
		{Type: 5, Coord: 1, Comp: 1, Comps: 3, Row: 2, Flag: 9}, // 5 bits
	} {
		count, rows := 0, map[byte]api.Rec{}
		for flag := range 16 {
			for n := range 16 {
				for c := range 16 {
					r := api.Rec{Flag: uint8(flag), P: api.Spot{X: uint32(n >> 2), Y: uint32(n & 3)}}
					for i := range r.C {
						r.C[i] = uint16(c >> i & 1)
					}
					b := checkPut(t, l, []api.Rec{r})
					if b == nil {
						continue
					}
					count++
					if other, ok := rows[b[0]]; ok {
						t.Errorf("%+v: both %v and %v are %x", l, r, other, b)
					}
					rows[b[0]] = r
				}
			}
		}
		if want := 1 << (flagsOf(l) + 2*l.Coord + l.Comps*l.Comp); count != want || len(rows) != want {
			t.Errorf("%+v: %d records, %d rows of bytes, not %d", l, count, len(rows), want)
		}
	}
}

// P9.3: records stand one behind the other: what is put together is what is put alone, and so of bytes.
func TestOneBehindTheOther(t *testing.T) {
	seed := uint64(13)
	eachLayout(func(l api.Layout) {
		seed = stir(seed)
		v := strewn(l, 5, seed)
		var alone []byte
		for _, r := range v {
			alone = append(alone, checkPut(t, l, []api.Rec{r})...)
		}
		if all := checkPut(t, l, v); !slices.Equal(all, alone) {
			t.Errorf("%+v: %x together, %x alone", l, all, alone)
		}
		size := sizeOf(l)
		for i, r := range checkGet(t, l, alone) {
			if one := checkGet(t, l, alone[i*size:(i+1)*size]); !slices.Equal(one, []api.Rec{r}) {
				t.Errorf("%+v: the record at %d is %v, alone %v", l, i, r, one)
			}
		}
	})
}

// R4: what is told shares no memory with what was handed in, nor with another answer; what stands behind a list that is handed in stays as it was.
func TestMemoryOfItsOwn(t *testing.T) {
	for i, l := range aLayoutOfEachSize() {
		v := strewn(l, 9, uint64(20+i))
		handed := append(slices.Clone(v), api.Rec{Flag: 77})[:9]
		first, _ := records.Put(l, handed)
		second, _ := records.Put(l, handed)
		clear(handed)
		want := checkPut(t, l, v)
		if handed[:10][9].Flag != 77 || !slices.Equal(first, want) {
			t.Errorf("%+v: the bytes hang on the records", l)
		}
		for k := range first {
			first[k] ^= 0xff
		}
		if !slices.Equal(second, want) {
			t.Errorf("%+v: two answers of Put share memory", l)
		}
		bytes := append(slices.Clone(want), 77)[:len(want)]
		one, _ := records.Get(l, bytes)
		other, _ := records.Get(l, bytes)
		for k := range bytes {
			bytes[k] ^= 0xff
		}
		if bytes[:len(want)+1][len(want)] != 77 || !slices.Equal(one, v) {
			t.Errorf("%+v: the records hang on the bytes", l)
		}
		clear(one)
		if !slices.Equal(other, v) {
			t.Errorf("%+v: two answers of Get share memory", l)
		}
	}
}

// R5: what a call answers hangs on what it was given alone, not on calls ahead of it.
func TestCallsAlone(t *testing.T) {
	var want [][]byte
	layouts := aLayoutOfEachSize()
	for i, l := range layouts {
		want = append(want, checkPut(t, l, strewn(l, 3, uint64(30+i))))
	}
	for i, l := range slices.Backward(layouts) {
		refusesPut(t, api.Layout{}, nil, api.ErrForm)
		refusesGet(t, l, make([]byte, mostBytes+1), api.ErrLimit)
		v := strewn(l, 3, uint64(30+i))
		bothWays(t, l, v, want[i])
	}
}

// The tests' own reckoning finds each size that a record may have.
func TestEachSize(t *testing.T) {
	var sizes [6][]int
	for _, l := range aLayoutOfEachSize() {
		sizes[l.Type] = append(sizes[l.Type], sizeOf(l))
	}
	want := [][]int{
		4: {1, 2, 3, 4, 5, 6, 7, 8, 9, 10, 11, 12, 13, 14, 15, 17},
		5: {1, 2, 3, 4, 5, 6, 7, 8, 9, 10, 11, 12, 13, 14, 16},
	}
	for _, kind := range []int{4, 5} {
		slices.Sort(sizes[kind])
		if !slices.Equal(sizes[kind], want[kind]) {
			t.Errorf("type %d: records of %v bytes", kind, sizes[kind])
		}
	}
}
