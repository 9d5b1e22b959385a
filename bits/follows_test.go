package bits_test

import (
	"slices"
	"strings"
	"testing"

	"gouache/api"
	own "gouache/bits"
)

func get(t *testing.T, b []byte, at, n int) uint32 {
	t.Helper()
	v, e := own.Get(b, at, n)
	if e != api.OK {
		t.Fatalf("Get of %d bytes, %d, %d: %v", len(b), at, n, e)
	}
	return v
}

// P6.4: what is put is got, wherever it stands in a byte.
func TestPutIsGot(t *testing.T) {
	for before := range 33 {
		for n := range 33 {
			for _, v := range ofLength(n) {
				r := filled(t, before)
				put(t, r, v, n)
				put(t, r, 0x1f, 5)
				if got := get(t, r.Bytes(), before, n); got != v {
					t.Errorf("%x of %d bits, behind %d: %x", v, n, before, got)
				}
			}
		}
	}
}

// P6.4: so it is of many, up to the limit.
func TestManyPutAreGot(t *testing.T) {
	for seed := range uint64(4) {
		r := own.New()
		var all []number
		for _, x := range strewn(40000, seed+362436069) {
			if r.Len()+x.n > mostBits {
				refused(t, r, x.v, x.n, api.ErrLimit)
				break
			}
			put(t, r, x.v, x.n)
			all = append(all, x)
		}
		b, at := r.Bytes(), 0
		for _, x := range all {
			if got := get(t, b, at, x.n); got != x.v {
				t.Fatalf("%x of %d bits, behind %d: %x", x.v, x.n, at, got)
			}
			at += x.n
		}
		if at != r.Len() || at < mostBits-32 {
			t.Errorf("%d bits were put, %d are there", at, r.Len())
		}
		if _, e := own.Get(b, at, 8*len(b)-at+1); e != api.ErrShort {
			t.Errorf("one bit more: %v", e)
		}
	}
}

// P6.4: numbers of more bits are those of fewer, one behind the other: when they are got,
func TestGotInParts(t *testing.T) {
	b := strewnBytes(9, 123456789)
	for at := range 40 {
		for n := range 33 {
			whole := get(t, b, at, n)
			for first := range n + 1 {
				high, low := get(t, b, at, first), get(t, b, at+first, n-first)
				if uint64(high)<<(n-first)|uint64(low) != uint64(whole) {
					t.Errorf("%d bits from %d on are %x, but %x and %x", n, at, whole, high, low)
				}
			}
		}
	}
}

// and when they are put.
func TestPutInParts(t *testing.T) {
	for before := range 9 {
		for n := range 33 {
			for _, v := range ofLength(n) {
				whole := filled(t, before)
				put(t, whole, v, n)
				for first := range n + 1 {
					parts := filled(t, before)
					put(t, parts, uint32(uint64(v)>>(n-first)), first)
					put(t, parts, v&uint32(uint64(1)<<(n-first)-1), n-first)
					if parts.Len() != whole.Len() || !slices.Equal(parts.Bytes(), whole.Bytes()) {
						t.Errorf("%x of %d bits, behind %d, is not what it is as %d and %d bits", v, n, before, first, n-first)
					}
				}
			}
		}
	}
}

// P6.4: bytes are rows of numbers of eight bits.
func TestBytesAreNumbers(t *testing.T) {
	for _, size := range []int{0, 1, 2, 5, 256, 1000, api.MaxBytes} {
		b := strewnBytes(size, 88172645463325252)
		r := own.New()
		for i, x := range b {
			put(t, r, uint32(x), 8)
			if got := get(t, b, 8*i, 8); got != uint32(x) {
				t.Errorf("byte %d is %d, not %d", i, got, x)
			}
		}
		if r.Len() != 8*size || !slices.Equal(r.Bytes(), b) {
			t.Errorf("a row of %d bytes has %d bits", size, r.Len())
		}
	}
}

// R5: rows that grow in turns do not touch each other.
func TestRowsSideBySide(t *testing.T) {
	rows := []*own.Row{own.New(), own.New(), own.New()}
	wants := make([]string, len(rows))
	for i, x := range strewn(300, 521288629) {
		k := i * i % len(rows)
		put(t, rows[k], x.v, x.n)
		wants[k] += textOf(x.v, x.n)
		for j, r := range rows {
			checkRow(t, r, wants[j])
		}
	}
}

// R5: a row that was copied and its copy are two, whichever of them goes on first.
func TestCopiedRow(t *testing.T) {
	for before := range 75 {
		for _, copyFirst := range []bool{false, true} {
			row := filled(t, before)
			copied := *row
			start := strings.Repeat("1", before)
			first, second := row, &copied
			if copyFirst {
				first, second = second, first
			}
			put(t, first, 0x155, 10)
			checkRow(t, second, start)
			put(t, second, 0x2aa, 10)
			checkRow(t, first, start+"0101010101")
			if e := first.Pad(); e != api.OK {
				t.Errorf("Pad: %v", e)
			}
			put(t, second, 0x12345678, 32)
			checkRow(t, first, text(bytesOf(start+"0101010101")))
			checkRow(t, second, start+"1010101010"+textOf(0x12345678, 32))
		}
	}
}

// R5: nor does a copy that is laid back over its row touch another copy.
func TestCopyLaidBack(t *testing.T) {
	row := filled(t, 43)
	short := *row
	put(t, row, 0x123456, 24)
	long := *row
	*row = short
	put(t, row, 0xabcdef, 24)
	ones := strings.Repeat("1", 43)
	checkRow(t, row, ones+textOf(0xabcdef, 24))
	checkRow(t, &long, ones+textOf(0x123456, 24))
	checkRow(t, &short, ones)
}
