package bits

import "slices"

// shelf: whole bytes, one behind the other. Rows that are copies of one row share it, so what lies there is never changed: each row knows how far its own bytes go.
type shelf struct{ bytes []byte }

func (r *Row) isThere() bool { return r != nil && r.shelf != nil }

// piece: k bits of a number, above its lowest ones.
func piece(v uint32, above, k int) uint32 { return v >> above & (1<<k - 1) }

// take: the last byte has k bits more, at most as many as are free.
func (r *Row) take(bits uint32, k int) {
	r.free -= k
	r.last |= byte(bits << r.free)
	if r.free == 0 {
		r.lay()
	}
}

// lay: the last byte is whole; the next one begins.
func (r *Row) lay() {
	if r.whole < len(r.bytes) {
		// A copy of the row has laid other bytes behind: from here on they part.
		r.shelf = &shelf{slices.Clone(r.bytes[:r.whole])}
	}
	r.bytes = append(r.bytes, r.last)
	r.whole, r.last, r.free = r.whole+1, 0, byteBits
}
