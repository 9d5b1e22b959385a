package angles

import (
	"gouache/api"
	"gouache/roots"
	"gouache/wides"
)

// How many bits are behind the point: of a small part, of a Fix, of a share of 90 degrees.
const (
	smallBits = 62
	fixBits   = 16
	shareBits = 40
)

// one, in small parts.
const one = int64(1) << smallBits

// arc: the cosine and the sine of a part of 90 degrees, in small parts.
type arc struct{ cos, sin int64 }

// arcs: the C(i) and the S(i).
func arcs() (table [shareBits + 1]arc) {
	table[0] = arc{cos: 0, sin: one}
	for i := range shareBits {
		table[i+1] = table[i].halved()
	}
	return table
}

// halved: the arc half as long. (Each cosine is below one, so the sum is below 2^63.)
func (a arc) halved() arc {
	// The root is one of small parts if their number is as many times greater; half of that is taken exactly so.
	root, _ := roots.RootWide(wides.Mul(one+a.cos, one/2))
	cos := int64(root)
	sin, _, _ := wides.Floor(wides.Mul(a.sin, one/2), cos)
	return arc{cos: cos, sin: int64(sin.Lo)}
}

// place: two numbers of small parts, or of 65536ths.
type place struct{ x, y int64 }

// on: turned on by an arc.
func (p place) on(by arc) place {
	return place{
		x: floored(wides.Sub(wides.Mul(p.x, by.cos), wides.Mul(p.y, by.sin))),
		y: floored(wides.Add(wides.Mul(p.y, by.cos), wides.Mul(p.x, by.sin))),
	}
}

// back: turned back by an arc.
func (p place) back(by arc) place {
	return place{
		x: floored(wides.Add(wides.Mul(p.x, by.cos), wides.Mul(p.y, by.sin))),
		y: floored(wides.Sub(wides.Mul(p.y, by.cos), wides.Mul(p.x, by.sin))),
	}
}

// floored: to small parts. There is no error to tell: each product is at most 2^125, so both are a wide together; and a turn leads no place out of its circle, so 64 bits hold what comes of it.
func floored(a api.Wide, _ api.Errno) int64 {
	q, _, _ := wides.Floor(a, one)
	return int64(q.Lo)
}

// turned: by each arc in order, one way, if what comes of it is to be taken; and the share of 90 degrees that was taken, in 2^-40s.
func (p place) turned(way func(place, arc) place, taken func(i int, to place) bool) (place, int64) {
	table := arcs()
	share := int64(0)
	for i := 1; i <= shareBits; i++ {
		share *= 2
		if to := way(p, table[i]); taken(i, to) {
			p = to
			share++
		}
	}
	return p, share
}

// atShare: the place 1, 0, turned on by a share of 90 degrees, in 2^-40s.
func atShare(share int64) place {
	p, _ := place{x: one}.turned(place.on, func(i int, _ place) bool {
		return share>>(shareBits-i)&1 == 1
	})
	return p
}

// share: how much of 90 degrees a place of the first quarter is turned back ahead of falling below 0, in 2^-40s.
func (p place) share() int64 {
	_, share := p.turned(place.back, func(_ int, to place) bool { return to.y >= 0 })
	return share
}

// lengthened: doubled as often as the greater number stays below 2^61; neither is below 0, and one is above.
func (p place) lengthened() place {
	more := smallBits - 2 - roots.Log(uint64(max(p.x, p.y)))
	return place{x: p.x << more, y: p.y << more}
}

// quadrant: how many whole quarters a place is on: a half line belongs to the quarter that begins with it.
func (p place) quadrant() int64 {
	switch {
	case p.x > 0 && p.y >= 0:
		return 0
	case p.y > 0 && p.x <= 0:
		return 1
	case p.x < 0 && p.y <= 0:
		return 2
	}
	return 3
}

// quarters: turned on by so many times 90 degrees, of either sign.
func (p place) quarters(n int64) place {
	switch n & 3 {
	case 1:
		return place{x: -p.y, y: p.x}
	case 2:
		return place{x: -p.x, y: -p.y}
	case 3:
		return place{x: p.y, y: -p.x}
	}
	return p
}
