package layouts

import "gouache/api"

// leastRow: with fewer vertices in a row there is no cell between them.
const leastRow = 2

// uses of a number of bits, as a set.
type uses uint8

const (
	forCoord uses = 1 << iota
	forComp
	forFlag
)

// usesOf: what each number of bits may be for.
var usesOf = [33]uses{
	1:  forCoord | forComp,
	2:  forCoord | forComp | forFlag,
	4:  forCoord | forComp | forFlag,
	8:  forCoord | forComp | forFlag,
	12: forCoord | forComp,
	16: forCoord | forComp,
	24: forCoord,
	32: forCoord,
}

// mayBe: may a number of bits be for this use?
func (u uses) mayBe(bits int) bool {
	return bits >= 0 && bits < len(usesOf) && usesOf[bits]&u != 0
}

// kindMayBe: is it a type, and is that right which not all types ask for?
func kindMayBe(l api.Layout) bool {
	switch l.Type {
	case 4, 6, 7:
		return forFlag.mayBe(l.Flag)
	case 5:
		return l.Row >= leastRow
	}
	return false
}
