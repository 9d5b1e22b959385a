package sheets

import "gouache/api"

// through all numbers of a sheet, as they stand in bits, up to the first one that fails. Those that are not told have no bits: so 0 is read there, and only 0 has room.
func through(l api.Layout, s *api.Sheet, w way) api.Errno {
	// The flag first: behind its pointer stands by then how many of the others are told.
	if e := w.flag(&s.Flag, l.Flag); e != api.OK {
		return e
	}
	points, colours := told(l, s.Flag)
	for i := range s.P {
		if e := throughSpot(&s.P[i], bitsOf(l.Coord, i < points), w); e != api.OK {
			return e
		}
	}
	for i := range s.C {
		if e := throughColour(l, &s.C[i], bitsOf(l.Comp, i < colours), w); e != api.OK {
			return e
		}
	}
	return api.OK
}

func throughSpot(p *api.Spot, n int, w way) api.Errno {
	if e := w.coord(&p.X, n); e != api.OK {
		return e
	}
	return w.coord(&p.Y, n)
}

func throughColour(l api.Layout, c *api.Colour, n int, w way) api.Errno {
	for i := range c {
		if e := w.comp(&c[i], bitsOf(n, i < l.Comps)); e != api.OK {
			return e
		}
	}
	return api.OK
}

// bitsOf a number: none, if it is not told.
func bitsOf(n int, isTold bool) int {
	if !isTold {
		return 0
	}
	return n
}

// told: how many points and colours, of a layout that may be.
func told(l api.Layout, flag uint8) (points, colours int) {
	points, colours = 12, 4
	if flag != 0 {
		// An edge is taken over from the patch ahead: its points, and the colours of its ends.
		points, colours = points-4, colours-2
	}
	if l.Type == 7 {
		// The places inside, which patches of type 6 don't tell.
		points += 4
	}
	return points, colours
}
