package fixeds

import (
	"math"

	"gouache/api"
	"gouache/wides"
)

// span of the numbers of 65536ths that an answer may be.
type span api.Range

// hold: the number itself, or the end of the span that it is beyond.
func (s span) hold(n api.Wide) api.Fix {
	if wides.Cmp(n, wides.Of(int64(s.Lo))) < 0 {
		return s.Lo
	}
	if wides.Cmp(n, wides.Of(int64(s.Hi))) > 0 {
		return s.Hi
	}
	k, _ := wides.Int(n)
	return api.Fix(k)
}

// holder: the one way out for every result, so that none can wrap.
func holder() func(api.Wide) api.Fix {
	return span{Lo: math.MinInt32, Hi: math.MaxInt32}.hold
}

// rounded: the nearest of n by d, held; d is neither 0 nor -2^63, n not the least wide.
func rounded(n api.Wide, d int64) api.Fix {
	if d < 0 {
		// wides divides only by what is above 0; the sign goes over ahead of the rounding, so the fraction is the same.
		n, _ = wides.Sub(api.Wide{}, n)
		d = -d
	}
	q, _ := wides.Near(n, d)
	return holder()(q)
}
