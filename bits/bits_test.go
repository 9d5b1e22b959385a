package bits_test

import (
	"math"
	"slices"
	"strings"
	"testing"

	"gouache/api"
	own "gouache/bits"
)

// P6.1: everywhere in rows of no byte up to nine, every number of bits, and beyond the ends.
func TestGet(t *testing.T) {
	for size := range 10 {
		for _, b := range [][]byte{strewnBytes(size, 88172645463325252), slices.Repeat([]byte{0xff}, size), make([]byte, size)} {
			for at := -2; at <= 8*size+2; at++ {
				for n := -2; n <= 34; n++ {
					checkGet(t, b, at, n)
				}
			}
		}
	}
}

// P6.1: written out, with the document's examples first.
func TestGetWrittenOut(t *testing.T) {
	two, one := []byte{172, 1}, []byte{172}
	six := []byte{0x81, 0x02, 0x03, 0x04, 0x85, 0xff}
	for _, c := range []struct {
		b     []byte
		at, n int
		v     uint32
		e     api.Errno
	}{
		{two, 0, 4, 10, api.OK}, {two, 6, 10, 1, api.OK}, {one, 4, 5, 0, api.ErrShort}, {one, 8, 0, 0, api.OK}, {one, 9, 0, 0, api.ErrShort}, {nil, 0, 33, 0, api.ErrArg},
		{nil, 0, 0, 0, api.OK}, {nil, 0, 1, 0, api.ErrShort}, {nil, 1, 0, 0, api.ErrShort},
		// Of one byte, of four, and of five.
		{six, 0, 8, 0x81, api.OK}, {six, 0, 32, 0x81020304, api.OK}, {six, 1, 32, 0x02040609, api.OK}, {six, 4, 32, 0x10203048, api.OK}, {six, 7, 32, 0x81018242, api.OK}, {six, 8, 32, 0x02030485, api.OK},
		// The last bit, and one more.
		{six, 16, 32, 0x030485ff, api.OK}, {six, 17, 32, 0, api.ErrShort}, {six, 47, 1, 1, api.OK}, {six, 47, 2, 0, api.ErrShort}, {six, 48, 1, 0, api.ErrShort},
		// No bits: at the very end, and one behind it.
		{six, 48, 0, 0, api.OK}, {six, 49, 0, 0, api.ErrShort}, {six, 0, 0, 0, api.OK}, {six, 3, 0, 0, api.OK},
		{six, 0, 1, 1, api.OK}, {six, 1, 1, 0, api.OK}, {six, 7, 1, 1, api.OK},
	} {
		if v, e := own.Get(c.b, c.at, c.n); v != c.v || e != c.e {
			t.Errorf("Get(%x, %d, %d): %x, %v, not %x, %v", c.b, c.at, c.n, v, e, c.v, c.e)
		}
	}
}

// P6.1: wrong inputs, as far out as an int goes; ErrArg is ahead of ErrShort.
func TestGetWrong(t *testing.T) {
	b := []byte{1, 2, 3, 4, 5, 6}
	for _, c := range []struct {
		at, n int
		e     api.Errno
	}{
		{-1, 0, api.ErrArg}, {-1, 8, api.ErrArg}, {-8, 8, api.ErrArg}, {-32, 32, api.ErrArg}, {math.MinInt, 8, api.ErrArg}, {math.MinInt, 0, api.ErrArg},
		{0, -1, api.ErrArg}, {8, -8, api.ErrArg}, {48, -1, api.ErrArg}, {0, math.MinInt, api.ErrArg}, {math.MaxInt, math.MinInt, api.ErrArg}, {-1, math.MaxInt, api.ErrArg},
		{0, 33, api.ErrArg}, {0, 40, api.ErrArg}, {0, 64, api.ErrArg}, {0, math.MaxInt, api.ErrArg}, {math.MaxInt, math.MaxInt, api.ErrArg}, {49, 33, api.ErrArg}, {49, -1, api.ErrArg},
		{math.MaxInt, 0, api.ErrShort}, {math.MaxInt, 1, api.ErrShort}, {math.MaxInt, 32, api.ErrShort}, {math.MaxInt - 31, 32, api.ErrShort}, {math.MaxInt - 32, 32, api.ErrShort},
	} {
		if v, e := own.Get(b, c.at, c.n); v != 0 || e != c.e {
			t.Errorf("Get(.., %d, %d): %x, %v, not 0, %v", c.at, c.n, v, e, c.e)
		}
	}
}

// P6.1: no limit is named there: more than MaxBytes bytes have bits too.
func TestGetOfManyBytes(t *testing.T) {
	b := strewnBytes(api.MaxBytes+9, 521288629)
	for at := mostBits - 40; at <= mostBits+72; at++ {
		tail := b[api.MaxBytes-5:]
		v, e := own.Get(b, at, 21)
		if want, f := wantGet(tail, at-(mostBits-40), 21); v != want || e != f {
			t.Errorf("Get(.., %d, 21): %x, %v, not %x, %v", at, v, e, want, f)
		}
	}
}

// R4: Get leaves the bytes as they are, and those in the room behind are none.
func TestGetLeavesBytes(t *testing.T) {
	all := strewnBytes(12, 362436069)
	before := slices.Clone(all)
	b := all[2:7]
	for at := range 50 {
		for n := range 33 {
			checkGet(t, b, at, n)
		}
	}
	if !slices.Equal(all, before) {
		t.Error("Get changed its bytes")
	}
}

// P6.2, P6.3: the document's example.
func TestRowWrittenOut(t *testing.T) {
	r := own.New()
	put(t, r, 5, 3)
	refused(t, r, 8, 3, api.ErrArg)
	put(t, r, 1, 7)
	if n, b := r.Len(), r.Bytes(); n != 10 || !slices.Equal(b, []byte{160, 64}) {
		t.Errorf("Len, Bytes: %d, %d", n, b)
	}
	if e := r.Pad(); e != api.OK || r.Len() != 16 {
		t.Errorf("Pad: %v, and %d bits", e, r.Len())
	}
	if b := r.Bytes(); !slices.Equal(b, []byte{160, 64}) {
		t.Errorf("Bytes: %d", b)
	}
}

// P6.2: New has no bits, and is another row each time.
func TestNew(t *testing.T) {
	r, s := own.New(), own.New()
	checkRow(t, r, "")
	put(t, r, 3, 2)
	checkRow(t, s, "")
	checkRow(t, own.New(), "")
}

// P6.2, P6.3: numbers of all lengths, behind rows of all lengths up to four bytes.
func TestPut(t *testing.T) {
	for before := range 33 {
		for n := range 33 {
			for _, v := range append(ofLength(n), 0) {
				for _, first := range []uint32{0, uint32(uint64(1)<<before - 1)} {
					r := own.New()
					put(t, r, first, before)
					put(t, r, v, n)
					checkRow(t, r, textOf(first, before)+textOf(v, n))
				}
			}
		}
	}
}

// P6.2, P6.3: many numbers, one behind the other; the row is looked at after each one.
func TestPutMany(t *testing.T) {
	for seed := range uint64(20) {
		r := own.New()
		want := ""
		for _, x := range strewn(60, seed+88172645463325252) {
			put(t, r, x.v, x.n)
			want += textOf(x.v, x.n)
			checkRow(t, r, want)
		}
	}
}

// P6.2: a number that needs just as many bits as it is given, and one more.
func TestPutNeedsBits(t *testing.T) {
	for before := range 9 {
		for need := range 33 {
			for _, v := range ofLength(need) {
				r := filled(t, before)
				for n := range need {
					refused(t, r, v, n, api.ErrArg)
				}
				put(t, r, v, need)
				checkRow(t, r, strings.Repeat("1", before)+textOf(v, need))
			}
		}
	}
}

// P6.2: more or fewer bits than may be.
func TestPutWrong(t *testing.T) {
	for _, r := range []*own.Row{own.New(), filled(t, 11), filled(t, 16)} {
		for _, n := range []int{-1, -8, -32, math.MinInt, math.MinInt + 1, 33, 34, 40, 64, 256, 1 << 32, math.MaxInt} {
			for _, v := range []uint32{0, 1, 255, math.MaxUint32} {
				refused(t, r, v, n, api.ErrArg)
			}
		}
	}
}

// P6.2: a row may be full to the last bit; not one more.
func TestPutLimit(t *testing.T) {
	for _, left := range []int{0, 1, 7, 8, 9, 31, 32} {
		r := filled(t, mostBits-left)
		for n := left + 1; n <= 32; n++ {
			refused(t, r, 0, n, api.ErrLimit)
		}
		put(t, r, uint32(uint64(1)<<left-1), left)
		full := slices.Repeat([]byte{0xff}, api.MaxBytes)
		for range 2 {
			if b := r.Bytes(); r.Len() != mostBits || !slices.Equal(b, full) {
				t.Errorf("%d bits, %d bytes", r.Len(), len(b))
			}
			refused(t, r, 0, 1, api.ErrLimit)
			refused(t, r, 1, 1, api.ErrLimit)
			refused(t, r, 0, 32, api.ErrLimit)
			// What no row takes is no matter of the limit; nor are no bits.
			refused(t, r, 2, 1, api.ErrArg)
			refused(t, r, 0, 33, api.ErrArg)
			refused(t, r, 0, -1, api.ErrArg)
			refused(t, r, 0, 0, api.OK)
			if e := r.Pad(); e != api.OK {
				t.Errorf("Pad of a full row: %v", e)
			}
		}
	}
}

// P6.2: full, bit by bit.
func TestPutSingleBits(t *testing.T) {
	want := strewnBytes(api.MaxBytes, 123456789)
	r := own.New()
	for at := range mostBits {
		put(t, r, uint32(want[at/8]>>(7-at%8)&1), 1)
	}
	if r.Len() != mostBits || !slices.Equal(r.Bytes(), want) {
		t.Errorf("%d bits", r.Len())
	}
	refused(t, r, 0, 1, api.ErrLimit)
}

// P6.2: Pad: noughts, as few as may be; none of whole bytes; and numbers go on behind them.
func TestPad(t *testing.T) {
	for size := range 70 {
		r := filled(t, size)
		want := strings.Repeat("1", size)
		for len(want)%8 != 0 {
			want += "0"
		}
		for range 2 {
			if e := r.Pad(); e != api.OK {
				t.Errorf("Pad of %d bits: %v", size, e)
			}
			checkRow(t, r, want)
		}
		put(t, r, 0x155, 9)
		checkRow(t, r, want+"101010101")
	}
}

// P6.2: the last byte of the greatest row is padded too.
func TestPadNearTheLimit(t *testing.T) {
	for free := 1; free <= 8; free++ {
		r := filled(t, mostBits-free)
		size := mostBits
		if free == 8 {
			size -= 8
		}
		if e := r.Pad(); e != api.OK || r.Len() != size || len(r.Bytes()) != size/8 {
			t.Errorf("Pad with %d bits to the limit: %v, and %d bits", free, e, r.Len())
		}
	}
}

// P6.2, P6.3, R3: a row that is nil, or that New did not make, is not there, before and after; ErrNil is ahead of all.
func TestRowNotThere(t *testing.T) {
	emptied := filled(t, 77)
	*emptied = own.Row{}
	var declared own.Row
	for i, r := range []*own.Row{nil, {}, new(own.Row), &declared, emptied} {
		for range 2 {
			for _, x := range []number{{0, 0}, {0, 1}, {1, 1}, {2, 1}, {0, 33}, {0, -1}, {math.MaxUint32, 32}} {
				if e := r.Put(x.v, x.n); e != api.ErrNil {
					t.Errorf("%d: Put(%d, %d): %v", i, x.v, x.n, e)
				}
			}
			if e := r.Pad(); e != api.ErrNil {
				t.Errorf("%d: Pad: %v", i, e)
			}
			if b := r.Bytes(); len(b) != 0 || cap(b) != 0 {
				t.Errorf("%d: Bytes: %x", i, b)
			}
			if n := r.Len(); n != 0 {
				t.Errorf("%d: Len: %d", i, n)
			}
		}
	}
}

// P6.3, R4: bytes that were given back are the caller's: what he does with them is not seen by the row, what the row does later not by them.
func TestBytesAreNotShared(t *testing.T) {
	for size := 1; size <= 80; size++ {
		r := filled(t, size)
		want := strings.Repeat("1", size)
		first, second := r.Bytes(), r.Bytes()
		clear(first)
		_ = append(first, 0xaa)
		if !slices.Equal(second, bytesOf(want)) {
			t.Errorf("two answers of one row of %d bits share memory", size)
		}
		checkRow(t, r, want)
		put(t, r, 0xfff, 12)
		clear(second)
		checkRow(t, r, want+strings.Repeat("1", 12))
		if third := r.Bytes(); third[0] == 0 || slices.Max(first) != 0 || slices.Max(second) != 0 {
			t.Errorf("bytes of a row of %d bits changed behind their owner", size)
		}
	}
}

// P6.3, R5: asking changes nothing.
func TestAskingChangesNothing(t *testing.T) {
	plain, asked := own.New(), own.New()
	for _, x := range strewn(400, 2463534242) {
		put(t, plain, x.v, x.n)
		put(t, asked, x.v, x.n)
		once, size := asked.Bytes(), asked.Len()
		if b, n := asked.Bytes(), asked.Len(); n != size || !slices.Equal(b, once) {
			t.Errorf("asked again, a row of %d bits answers otherwise", size)
		}
	}
	if plain.Len() != asked.Len() || !slices.Equal(plain.Bytes(), asked.Bytes()) {
		t.Error("a row that was asked is another one")
	}
}
