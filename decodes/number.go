package decodes

import "gouache/api"

// longest: bits that a number may have.
const longest = 32

// number of a stream: as it stands there, and its bits.
type number struct {
	raw  uint32
	bits int
}

// numberOf makes sure of the number on the way out, so that none leaves it that may not be.
func numberOf(raw uint32, bits int) (n number, e api.Errno) {
	defer func() {
		if !n.mayBe() {
			n, e = number{}, api.ErrArg
		}
	}()
	return number{raw: raw, bits: bits}, api.OK
}

func (n number) mayBe() bool {
	// The bits first: there is no greatest number of fewer than none.
	return n.bits >= 1 && n.bits <= longest && int64(n.raw) <= n.greatest()
}

// greatest number of as many bits.
func (n number) greatest() int64 { return 1<<n.bits - 1 }

// width of a range, of either sign; a Fix could not hold it.
func width(r api.Range) int64 { return int64(r.Hi) - int64(r.Lo) }

// along: how far v is on its way from the range's Lo to its Hi, and how long that way is; beyond an end is as far as the end.
func along(v api.Fix, r api.Range) (at, of int64) {
	at, of = int64(v)-int64(r.Lo), width(r)
	if of < 0 {
		at, of = -at, -of
	}
	return max(0, min(at, of)), of
}
