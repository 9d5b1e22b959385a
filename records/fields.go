package records

import (
	"cmp"

	"gouache/api"
)

// field of a record: its numbers, got out of a stream, or laid in one. Both closures know their bits: none for what the layout doesn't tell, so that 0 is got there, and only 0 has room.
type field struct {
	get func(from *source, to *api.Rec)
	lay func(from api.Rec, to taker) api.Errno
}

// fieldsOf a layout that may be, as they stand in a record.
func fieldsOf(l api.Layout) []field {
	flag := l.Flag
	if l.Type == 5 {
		// Whatever stands there: no flag is told.
		flag = 0
	}
	var comps [api.MaxComps]int
	for i := range l.Comps {
		comps[i] = l.Comp
	}
	return []field{flagIn(flag), pointIn(l.Coord), coloursIn(comps[:])}
}

func flagIn(n int) field {
	return field{
		get: func(from *source, to *api.Rec) { to.Flag = uint8(from.read(n)[0]) },
		lay: func(from api.Rec, to taker) api.Errno { return to(uint32(from.Flag), n) },
	}
}

func pointIn(n int) field {
	return field{
		get: func(from *source, to *api.Rec) {
			v := from.read(n, n)
			to.P = api.Spot{X: v[0], Y: v[1]}
		},
		lay: func(from api.Rec, to taker) api.Errno {
			return cmp.Or(to(from.P.X, n), to(from.P.Y, n))
		},
	}
}

// coloursIn as many bits each: one number for each colour that a record may have.
func coloursIn(comps []int) field {
	return field{
		get: func(from *source, to *api.Rec) {
			for i, v := range from.read(comps...) {
				to.C[i] = uint16(v)
			}
		},
		lay: func(from api.Rec, to taker) api.Errno {
			for i, n := range comps {
				if e := to(uint32(from.C[i]), n); e != api.OK {
					return e
				}
			}
			return api.OK
		},
	}
}

// lay: a record's fields, one behind the other.
func lay(fields []field, r api.Rec, to taker) api.Errno {
	for _, f := range fields {
		if e := f.lay(r, to); e != api.OK {
			return e
		}
	}
	return api.OK
}
