package bits_test

import (
	"math/bits"
	"slices"
	"strconv"
	"strings"
	"testing"

	"gouache/api"
	own "gouache/bits"
)

// mostBits: the document's 8 times MaxBytes, written out.
const mostBits = 524288

// text: the document's own words for the bits of bytes, each one a letter.
func text(b []byte) string {
	var out strings.Builder
	for _, x := range b {
		for place := 7; place >= 0; place-- {
			out.WriteString(strconv.Itoa(int(x) >> place & 1))
		}
	}
	return out.String()
}

// textOf: a number's lowest n bits, the highest first.
func textOf(v uint32, n int) string {
	s := strings.Repeat("0", 32) + strconv.FormatUint(uint64(v), 2)
	return s[len(s)-n:]
}

// bytesOf: bits as bytes, with noughts behind the last one.
func bytesOf(s string) []byte {
	s += strings.Repeat("0", (8-len(s)%8)%8)
	var out []byte
	for at := 0; at < len(s); at += 8 {
		n, _ := strconv.ParseUint(s[at:at+8], 2, 8)
		out = append(out, byte(n))
	}
	return out
}

// wantGet: P6.1, on bits as letters.
func wantGet(b []byte, at, n int) (uint32, api.Errno) {
	s := text(b)
	switch {
	case at < 0 || n < 0 || n > 32:
		return 0, api.ErrArg
	case at > len(s) || n > len(s)-at:
		return 0, api.ErrShort
	case n == 0:
		return 0, api.OK
	}
	v, _ := strconv.ParseUint(s[at:at+n], 2, 32)
	return uint32(v), api.OK
}

func checkGet(t *testing.T, b []byte, at, n int) {
	t.Helper()
	v, e := own.Get(b, at, n)
	if want, f := wantGet(b, at, n); v != want || e != f {
		t.Errorf("Get(%x, %d, %d): %x, %v, not %x, %v", b, at, n, v, e, want, f)
	}
}

// checkRow: its bits are those, and its bytes have no room behind.
func checkRow(t *testing.T, r *own.Row, want string) {
	t.Helper()
	if n := r.Len(); n != len(want) {
		t.Errorf("Len: %d, not %d", n, len(want))
	}
	b := r.Bytes()
	if w := bytesOf(want); !slices.Equal(b, w) {
		t.Errorf("Bytes: %x, not %x", b, w)
	}
	if cap(b) != len(b) {
		t.Errorf("Bytes: %d, with room for %d", len(b), cap(b))
	}
}

func put(t *testing.T, r *own.Row, v uint32, n int) {
	t.Helper()
	if e := r.Put(v, n); e != api.OK {
		t.Fatalf("Put(%x, %d) behind %d bits: %v", v, n, r.Len(), e)
	}
}

// refused: Put answers that, and the row is as it was.
func refused(t *testing.T, r *own.Row, v uint32, n int, want api.Errno) {
	t.Helper()
	before, size := r.Bytes(), r.Len()
	if e := r.Put(v, n); e != want {
		t.Errorf("Put(%x, %d) behind %d bits: %v, not %v", v, n, size, e, want)
	}
	if r.Len() != size || !slices.Equal(r.Bytes(), before) {
		t.Errorf("Put(%x, %d), which was refused, changed a row of %d bits", v, n, size)
	}
}

// filled: a row of so many bits, all of them ones.
func filled(t *testing.T, size int) *own.Row {
	t.Helper()
	r := own.New()
	for range size / 32 {
		put(t, r, 0xffffffff, 32)
	}
	put(t, r, 1<<(size%32)-1, size%32)
	return r
}

// stir: a number from the one before it, the same in each run.
func stir(n uint64) uint64 {
	n ^= n << 13
	n ^= n >> 7
	return n ^ n<<17
}

// number: of so many bits.
type number struct {
	v uint32
	n int
}

// strewn: so many numbers of 0 to 32 bits, in no order.
func strewn(count int, seed uint64) []number {
	var out []number
	for range count {
		seed = stir(seed)
		n := int(seed % 33)
		seed = stir(seed)
		out = append(out, number{uint32(seed>>32) & uint32(uint64(1)<<n-1), n})
	}
	return out
}

// strewnBytes: so many bytes, in no order.
func strewnBytes(count int, seed uint64) []byte {
	out := make([]byte, count)
	for i := range out {
		seed = stir(seed)
		out[i] = byte(seed >> 40)
	}
	return out
}

// ofLength: numbers that need just n bits: the least and the greatest one, and some between.
func ofLength(n int) []uint32 {
	if n == 0 {
		return []uint32{0}
	}
	least, greatest := uint32(1)<<(n-1), uint32(uint64(1)<<n-1)
	out := []uint32{least, greatest}
	for _, some := range []uint32{0x55555555, 0xaaaaaaaa, 0x12345678, 0x9e3779b9} {
		out = append(out, some&greatest|least)
	}
	return out
}

// The tests' own numbers are what their names say.
func TestOfLength(t *testing.T) {
	for n := range 33 {
		for _, v := range ofLength(n) {
			if bits.Len32(v) != n {
				t.Errorf("%x needs no %d bits", v, n)
			}
		}
	}
}
