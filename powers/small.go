package powers

import (
	"gouache/api"
	"gouache/roots"
	"gouache/wides"
)

// How many bits are behind the point: of a small part, of a Fix, of what 2 is raised to, of a long log.
const (
	smallBits = 62
	fixBits   = 16
	powerBits = 32
	logBits   = 40
)

// one and two, in small parts.
const (
	one = uint64(1) << smallBits
	two = 2 * one
)

// power of 2: so many small parts, from one up to below two, times 2^whole.
type power struct {
	part  uint64
	whole int64
}

// twoTo: 2 to the power of a number with 32 bits behind its point.
func twoTo(e int64) power {
	table := rootsOfTwo()
	p := power{part: one, whole: e >> powerBits}
bits:
	for i := 1; i <= powerBits; i++ {
		if e>>(powerBits-i)&1 == 0 {
			continue bits
		}
		p.part = times(p.part, table[i])
	}
	return p
}

// nearest: in 65536ths; all that no Fix can have is the first number beyond, which is held alike.
func (p power) nearest() int64 {
	const (
		beyond = 31 - fixBits
		// least: from here down it is below the half of a 65536th.
		least = -fixBits - 2
	)
	switch {
	case p.whole >= beyond:
		return 1 << (beyond + fixBits)
	case p.whole <= least:
		return 0
	}
	places := smallBits - fixBits - p.whole
	return int64((p.part + 1<<(places-1)) >> places)
}

// rootsOfTwo: the T(i): two, and each the root of the one ahead.
func rootsOfTwo() (table [powerBits + 1]uint64) {
	ahead := two
	next := func() uint64 {
		// The root of so many small parts is one of these if their number is as many times greater.
		square, _ := wides.Times(api.Wide{Lo: ahead}, int64(one))
		ahead, _ = roots.RootWide(square)
		return ahead
	}
	table[0] = ahead
	for i := range powerBits {
		table[i+1] = next()
	}
	return table
}

// longLog: of 65536ths above 0, with 40 bits behind its point.
func longLog(x int64) int64 {
	top := roots.Log(uint64(x))
	log := int64(top - fixBits)
	y := uint64(x) << (smallBits - top)
bits:
	for range logBits {
		log *= 2
		y = times(y, y)
		if y < two {
			continue bits
		}
		log++
		y /= 2
	}
	return log
}

// times: the product of two numbers below two, floored to small parts; it is below four, so 64 bits hold it.
func times(a, b uint64) uint64 {
	q, _, _ := wides.Floor(wides.Mul(int64(a), int64(b)), int64(one))
	return q.Lo
}
