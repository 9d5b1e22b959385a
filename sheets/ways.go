package sheets

import (
	"gouache/api"
	"gouache/bits"
)

// way to go through a sheet's numbers, each behind a pointer, and in so many bits.
type way interface {
	flag(at *uint8, n int) api.Errno
	coord(at *uint32, n int) api.Errno
	comp(at *uint16, n int) api.Errno
}

// number of a sheet: a flag, one of a colour, or one of a point.
type number interface{ uint8 | uint16 | uint32 }

// reading: numbers are got out of bytes, the next one from a bit on.
type reading struct {
	bytes []byte
	from  int
}

func (r *reading) flag(at *uint8, n int) api.Errno   { return read(r, at, n) }
func (r *reading) coord(at *uint32, n int) api.Errno { return read(r, at, n) }
func (r *reading) comp(at *uint16, n int) api.Errno  { return read(r, at, n) }

func read[N number](r *reading, at *N, n int) api.Errno {
	v, e := bits.Get(r.bytes, r.from, n)
	r.from += n
	// No layout gives a number more bits than it has here.
	*at = N(v)
	return e
}

// laying: numbers are handed on, to what takes each of them in so many bits.
type laying struct {
	to func(v uint32, n int) api.Errno
}

func (l laying) flag(at *uint8, n int) api.Errno   { return l.to(uint32(*at), n) }
func (l laying) coord(at *uint32, n int) api.Errno { return l.to(*at, n) }
func (l laying) comp(at *uint16, n int) api.Errno  { return l.to(uint32(*at), n) }

// fit takes nothing, but asks whether there is room.
func fit(v uint32, n int) api.Errno {
	if v>>n != 0 {
		return api.ErrArg
	}
	return api.OK
}
