package sheets_test

import (
	"slices"
	"testing"

	"gouache/api"
	"gouache/sheets"
)

// P11.3: what is put is got.
func TestPutIsGot(t *testing.T) {
	seed := uint64(11)
	eachLayout(func(l api.Layout) {
		seed = stir(seed)
		s := append(strewn(l, 7, seed), fullest(l, 2), api.Sheet{})
		b, e := sheets.Put(l, s)
		if e != api.OK {
			t.Fatalf("Put(%+v, %v): %v", l, s, e)
		}
		if got, e := sheets.Get(l, b); e != api.OK || !slices.Equal(got, s) {
			t.Errorf("%+v: put %v, got %v, %v", l, s, got, e)
		}
	})
}

// wholeOf bytes: as many as make whole sheets.
func wholeOf(l api.Layout, b []byte) []byte {
	end := 0
	for end < len(b) {
		next := end + sizeOf(l, flagOf(l, b[end]))
		if next > len(b) {
			break
		}
		end = next
	}
	return b[:end]
}

// bare: the bytes of whole sheets, with noughts for the bits up to whole bytes.
func bare(l api.Layout, b []byte) []byte {
	out := slices.Clone(b)
	for at := 0; at < len(out); {
		flag := flagOf(l, out[at])
		at += sizeOf(l, flag)
		spare := 8*sizeOf(l, flag) - bareBits(l, flag)
		out[at-1] = out[at-1] >> spare << spare
	}
	return out
}

// P11.3: of bytes that Get takes Put makes these again, but for the bits up to whole bytes, which are noughts then.
func TestGotIsPut(t *testing.T) {
	seed := uint64(12)
	eachLayout(func(l api.Layout) {
		seed = stir(seed)
		spread := strewnBytes(600, seed)
		low := slices.Clone(spread)
		// So that more of the flags are 0.
		for i := range low {
			low[i] >>= spread[(i+1)%len(spread)] & 7
		}
		for _, b := range [][]byte{spread, low, make([]byte, 500), slices.Repeat([]byte{0xff}, 500)} {
			b = wholeOf(l, b)
			s, e := sheets.Get(l, b)
			if e != api.OK || len(s) == 0 {
				t.Fatalf("Get(%+v, %x): %v", l, b, e)
			}
			if got, e := sheets.Put(l, s); e != api.OK || !slices.Equal(got, bare(l, b)) {
				t.Errorf("%+v: got from %x, put %x, %v", l, b, got, e)
			}
		}
	})
}

// P11.1, P11.3: whatever stands in the bits up to whole bytes, the sheets are the same.
func TestSpareBits(t *testing.T) {
	eachLayout(func(l api.Layout) {
		s := []api.Sheet{fullest(l, 1), fullest(l, 0), {Flag: 2}, {}}
		b := checkPut(t, l, s)
		end := 0
		for i, x := range s {
			end += sizeOf(l, x.Flag)
			for spare := range 8*sizeOf(l, x.Flag) - bareBits(l, x.Flag) {
				other := slices.Clone(b)
				other[end-1] |= 1 << spare
				got, e := sheets.Get(l, other)
				if e != api.OK || !slices.Equal(got, s) {
					t.Errorf("%+v: the sheet at %d with a bit behind its last one: %v, %v", l, i, got, e)
				}
				if again, e := sheets.Put(l, got); e != api.OK || !slices.Equal(again, b) {
					t.Errorf("%+v: it is put as %x, %v", l, again, e)
				}
			}
		}
	})
}

// P11.3: each bit that is told makes another sheet, which is put with it.
func TestEachBit(t *testing.T) {
	for i, l := range aLayoutOfEachSize() {
		s := strewn(l, 2, uint64(13+i))
		for k, x := range s {
			b := checkPut(t, l, []api.Sheet{x})
			// Another flag may be that of a shorter sheet, or of a longer one.
			for at := l.Flag; at < bareBits(l, x.Flag); at++ {
				other := slices.Clone(b)
				other[at/8] ^= 128 >> (at % 8)
				got, e := sheets.Get(l, other)
				if e != api.OK || len(got) != 1 || got[0] == s[k] {
					t.Errorf("%+v: %v with the bit %d changed: %v, %v", l, x, at, got, e)
				}
				if again, e := sheets.Put(l, got); e != api.OK || !slices.Equal(again, other) {
					t.Errorf("%+v: the bit %d is put as %x, %v", l, at, again, e)
				}
			}
		}
	}
}

// P11.3: sheets stand one behind the other: what is put together is what is put alone, and so of bytes.
func TestOneBehindTheOther(t *testing.T) {
	seed := uint64(14)
	eachLayout(func(l api.Layout) {
		seed = stir(seed)
		s := strewn(l, 5, seed)
		var alone []byte
		for _, x := range s {
			b, e := sheets.Put(l, []api.Sheet{x})
			if e != api.OK {
				t.Fatalf("Put(%+v, %v): %v", l, x, e)
			}
			if one, e := sheets.Get(l, b); e != api.OK || !slices.Equal(one, []api.Sheet{x}) {
				t.Errorf("%+v: alone %v is got as %v, %v", l, x, one, e)
			}
			alone = append(alone, b...)
		}
		if all, e := sheets.Put(l, s); e != api.OK || !slices.Equal(all, alone) {
			t.Errorf("%+v: %x together, %x alone, %v", l, all, alone, e)
		}
	})
}

// R4: what is told shares no memory with what was handed in, nor with another answer; what stands behind a list that is handed in stays as it was.
func TestMemoryOfItsOwn(t *testing.T) {
	for i, l := range aLayoutOfEachSize() {
		s := strewn(l, 9, uint64(20+i))
		behind := fullest(l, 3)
		handed := append(slices.Clone(s), behind)[:9]
		first, _ := sheets.Put(l, handed)
		second, _ := sheets.Put(l, handed)
		clear(handed)
		want := checkPut(t, l, s)
		if handed[:10][9] != behind || !slices.Equal(first, want) {
			t.Errorf("%+v: the bytes hang on the sheets", l)
		}
		for k := range first {
			first[k] ^= 0xff
		}
		if !slices.Equal(second, want) {
			t.Errorf("%+v: two answers of Put share memory", l)
		}
		bytes := append(slices.Clone(want), 77)[:len(want)]
		one, _ := sheets.Get(l, bytes)
		other, _ := sheets.Get(l, bytes)
		for k := range bytes {
			bytes[k] ^= 0xff
		}
		if bytes[:len(want)+1][len(want)] != 77 || !slices.Equal(one, s) {
			t.Errorf("%+v: the sheets hang on the bytes", l)
		}
		clear(one)
		if !slices.Equal(other, s) {
			t.Errorf("%+v: two answers of Get share memory", l)
		}
	}
}

// R4: Put changes no sheet that it refuses, nor one ahead of it.
func TestRefusedSheets(t *testing.T) {
	for i, l := range aLayoutOfEachSize() {
		for k, n := range numbersOf(l, 1) {
			if n.bits == n.top {
				continue
			}
			s := strewn(l, 3, uint64(30+i+k))
			n.set(&s[1], 1<<n.bits)
			before := slices.Clone(s)
			refusesPut(t, l, s, api.ErrArg)
			if !slices.Equal(s, before) {
				t.Errorf("%+v: %v is %v by now", l, before, s)
			}
		}
	}
}

// R5: what a call answers hangs on what it was given alone, not on calls ahead of it.
func TestCallsAlone(t *testing.T) {
	var want [][]byte
	layouts := aLayoutOfEachSize()
	for i, l := range layouts {
		want = append(want, checkPut(t, l, strewn(l, 3, uint64(40+i))))
	}
	for i, l := range slices.Backward(layouts) {
		refusesPut(t, api.Layout{}, nil, api.ErrForm)
		refusesGet(t, l, want[i][:len(want[i])-1], api.ErrShort)
		bothWays(t, l, strewn(l, 3, uint64(40+i)), want[i])
	}
}

// The tests' own reckoning: the least and the most bytes of a sheet are those of the document's numbers, and sheets of all flags are strewn.
func TestReckoning(t *testing.T) {
	least, most := mostBytes, 0
	flags := map[uint8]int{}
	eachLayout(func(l api.Layout) {
		for _, x := range strewn(l, 6, uint64(l.Coord+64*l.Comp+1024*l.Comps)) {
			flags[x.Flag]++
			least, most = min(least, sizeOf(l, x.Flag)), max(most, sizeOf(l, x.Flag))
		}
	})
	if least != 3 || most != 161 {
		t.Errorf("sheets of %d to %d bytes", least, most)
	}
	for flag := range uint8(16) {
		if flags[flag] == 0 {
			t.Errorf("no sheet has the flag %d", flag)
		}
	}
}
