package mouths

import (
	"slices"

	"steening/api"
)

// division is how many gauges each quarter has. There are none behind the last
// quarter of a box.
type division [api.MaxMouthQuarters]int

// list returns how many gauges each one of so many quarters has.
func (d division) list(quarters int) []int {
	return slices.Clone(d[:quarters])
}

// flowing is a valid box to which a flow comes.
type flowing struct {
	api.MouthBox
	flow int
}

// turns yields the quarter that has the gauge, for one gauge of the flow after
// the other, until the flow ends or the first gauge overflows: all that come
// behind that one overflow, too.
func (f flowing) turns(yield func(quarter int) bool) {
	var has division
	for range f.flow {
		quarter, is := f.next(has)
		if !is || !yield(quarter) {
			return
		}
		has[quarter]++
	}
}

// next returns the quarter to which one more gauge goes, if there is one.
func (f flowing) next(has division) (next int, is bool) {
	for quarter, share := range f.Shares {
		if share == 0 || has[quarter] == f.Mosts[quarter] {
			continue
		}
		// One fraction is greater than another one just if its Num, by the
		// other one's Den, is.
		if !is || share*(2*has[next]+1) > f.Shares[next]*(2*has[quarter]+1) {
			next, is = quarter, true
		}
	}
	return next, is
}

// divide returns how many gauges each quarter has of the flow.
func (f flowing) divide() division {
	var has division
	for quarter := range f.turns {
		has[quarter]++
	}
	return has
}

// turn returns which quarter has the last gauge of the flow, if it does not
// overflow.
func (f flowing) turn() (last int, is bool) {
	gauges := 0
	for quarter := range f.turns {
		last = quarter
		gauges++
	}
	if gauges < f.flow {
		return 0, false
	}
	return last, true
}

// until returns how much of the flow has come when a quarter has so many
// gauges, if it comes to have them.
func (f flowing) until(quarter, gauges int) (flow int, is bool) {
	for next := range f.turns {
		flow++
		if next != quarter {
			continue
		}
		gauges--
		if gauges == 0 {
			return flow, true
		}
	}
	return 0, false
}

// divide returns how many gauges each quarter of a valid box has of a flow.
func divide(b api.MouthBox, flow int) division {
	return flowing{MouthBox: b, flow: flow}.divide()
}

// servedWorst returns the quarter that is served the worst by a division, if there is
// one.
func servedWorst(b api.MouthBox, has division) (worst int, is bool) {
	for quarter, share := range b.Shares {
		if share == 0 {
			continue
		}
		if !is || has[quarter]*b.Shares[worst] < has[worst]*share {
			worst, is = quarter, true
		}
	}
	return worst, is
}
