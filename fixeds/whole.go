package fixeds

import (
	"gouache/api"
	"gouache/wides"
)

// choice of the whole one that is told.
type choice int

const (
	notAbove choice = iota
	notBelow
	nearest
	towardsNought
	choices
)

// lift: so many 65536ths further up the whole one not above is the one to be told; towards 0 that hangs on the sign.
type lift struct{ ofBelow, ofOthers int64 }

var lifts = [choices]lift{
	notAbove:      {0, 0},
	notBelow:      {api.FixedOne - 1, api.FixedOne - 1},
	nearest:       {api.FixedOne / 2, api.FixedOne / 2},
	towardsNought: {api.FixedOne - 1, 0},
}

func whole(a api.Fix, which choice) api.Fix {
	up := lifts[which].ofOthers
	if a < 0 {
		up = lifts[which].ofBelow
	}
	n := int64(a) + up
	// What is left over a whole one is never below 0: taken off, it leaves the whole one not above.
	_, left, _ := wides.Floor(wides.Of(n), api.FixedOne)
	return Sat(n - left)
}
