package layouts

import "gouache/api"

// record: the bits of its flag, and how many points and colours it tells.
type record struct{ flagBits, points, colours int }

// recordOf a layout that may be.
func recordOf(l api.Layout, flag uint8) record {
	r := record{flagBits: l.Flag}
	switch l.Type {
	case 5:
		// Its vertices stand in rows without flags, whatever the layout's Flag is.
		r.flagBits = 0
		fallthrough
	case 4:
		r.points, r.colours = 1, 1
	case 7:
		// The places inside, which patches of type 6 don't tell.
		r.points = 4
		fallthrough
	case 6:
		r.points, r.colours = r.points+8, 2
		if flag == 0 {
			// The edge that those of other flags take over.
			r.points, r.colours = r.points+4, r.colours+2
		}
	}
	return r
}

// bits of a record, without those that make whole bytes of it.
func (r record) bits(l api.Layout) int {
	return r.flagBits + 2*r.points*l.Coord + r.colours*l.Comps*l.Comp
}
