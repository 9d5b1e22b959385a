package records

import (
	"gouache/api"
	"gouache/bits"
)

// source of numbers: bytes, and the bit at which the next number begins.
type source struct {
	bytes []byte
	at    int
}

// read: numbers of so many bits each, one behind the other.
func (s *source) read(counts ...int) []uint32 {
	out := make([]uint32, len(counts))
	for i, n := range counts {
		// It never ends too soon: there are only whole records.
		out[i], _ = bits.Get(s.bytes, s.at, n)
		s.at += n
	}
	return out
}

// taker of numbers, each in so many bits.
type taker func(v uint32, n int) api.Errno

// fit: a taker that lays nothing, but asks whether there is room.
func fit(v uint32, n int) api.Errno {
	if v>>n != 0 {
		return api.ErrArg
	}
	return api.OK
}
