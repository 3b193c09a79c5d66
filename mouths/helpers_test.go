package mouths_test

import (
	"cmp"
	"math"
	"math/rand"
	"slices"

	"steening/api"
	"steening/mouths"
)

func list(l ...int) []int { return l }

func span(low, high int) api.Span { return api.Span{Low: low, High: high} }

func ratio(num, den int) api.Ratio { return api.Ratio{Num: num, Den: den} }

func box(shares, mosts []int) api.MouthBox {
	return api.MouthBox{Shares: shares, Mosts: mosts}
}

// wide returns a box of these shares, through whose mouths the most goes.
func wide(shares ...int) api.MouthBox {
	return box(shares, slices.Repeat(list(20), len(shares)))
}

// boxM and boxN are the boxes M and N of the chapter's examples.
func boxM() api.MouthBox { return box(list(5, 3, 1), list(9, 9, 9)) }

func boxN() api.MouthBox { return box(list(5, 3, 1), list(2, 1, 0)) }

// widest returns the box with the greatest numbers of all.
func widest() api.MouthBox { return wide(20, 20, 20, 20, 20) }

// plain returns some boxes at the ends of what can be.
func plain() []api.MouthBox {
	return []api.MouthBox{
		{},
		wide(0),
		wide(20),
		wide(0, 0, 0, 0, 0),
		wide(0, 1, 0),
		box(list(20, 20), list(0, 0)),
		box(list(1, 20), list(20, 0)),
		box(list(3, 2, 1), list(1, 1, 1)),
		wide(1, 20),
		wide(7, 18, 19),
		wide(3, 12, 16, 20),
		wide(1, 1, 1, 1, 1),
		widest(),
		boxM(),
		boxN(),
	}
}

// clone returns a box that shares no memory with another one.
func clone(b api.MouthBox) api.MouthBox {
	return box(slices.Clone(b.Shares), slices.Clone(b.Mosts))
}

// same reports whether two boxes are the same.
func same(a, b api.MouthBox) bool {
	return slices.Equal(a.Shares, b.Shares) && slices.Equal(a.Mosts, b.Mosts)
}

// with returns a box in which something is changed.
func with(b api.MouthBox, change func(b *api.MouthBox)) api.MouthBox {
	b = clone(b)
	change(&b)
	return b
}

// withShare returns a box in which a quarter has another share.
func withShare(b api.MouthBox, quarter, share int) api.MouthBox {
	return with(b, func(b *api.MouthBox) { b.Shares[quarter] = share })
}

// sumOf returns the sum of some numbers.
func sumOf(list []int) int {
	sum := 0
	for _, n := range list {
		sum += n
	}
	return sum
}

// odds is the product of the highest powers that divide an odd number up to 39,
// so that a share by such a number, times odds, is an integer.
const odds = 27 * 25 * 7 * 11 * 13 * 17 * 19 * 23 * 29 * 31 * 37

// turnsOf returns the quarters that have a gauge, in the order of the gauges:
// what each gauge of each quarter would be worth is written down, and the
// greatest ones come first.
func turnsOf(b api.MouthBox) []int {
	type claim struct{ quarter, worth int }
	var claims []claim
	for quarter, share := range b.Shares {
		for has := range b.Mosts[quarter] {
			if share > 0 {
				claims = append(claims, claim{quarter, odds / (2*has + 1) * share})
			}
		}
	}
	slices.SortFunc(claims, func(x, y claim) int {
		return cmp.Or(-cmp.Compare(x.worth, y.worth), x.quarter-y.quarter)
	})
	var turns []int
	for _, c := range claims {
		turns = append(turns, c.quarter)
	}
	return turns
}

// divisionOf returns how many gauges each quarter has of a flow.
func divisionOf(b api.MouthBox, flow int) []int {
	has, turns := make([]int, len(b.Shares)), turnsOf(b)
	for _, quarter := range turns[:min(flow, len(turns))] {
		has[quarter]++
	}
	return has
}

// divisionsOf returns the divisions of all flows.
func divisionsOf(b api.MouthBox) [][]int {
	var all [][]int
	for flow := range api.MaxMouthFlow + 1 {
		all = append(all, divisionOf(b, flow))
	}
	return all
}

// remaindersOf returns how many gauges each quarter has of any flow by
// remainders: a quarter has one more if fewer of which as much, or more, was cut
// off come before it than gauges are left.
func remaindersOf(b api.MouthBox, flow int) []int {
	has, all := make([]int, len(b.Shares)), sumOf(b.Shares)
	if all == 0 {
		return has
	}
	cut, left := make([]int, len(b.Shares)), flow
	for quarter, share := range b.Shares {
		for flow*share-has[quarter]*all >= all {
			has[quarter]++
		}
		cut[quarter] = flow*share - has[quarter]*all
		left -= has[quarter]
	}
	for quarter := range has {
		before := 0
		for other := range cut {
			if cut[other] > cut[quarter] || cut[other] == cut[quarter] && other < quarter {
				before++
			}
		}
		if before < left {
			has[quarter]++
		}
	}
	return has
}

// divides reports whether a number above 1 divides both numbers of a fraction.
func divides(r api.Ratio) bool {
	for n := 2; n <= r.Den; n++ {
		if r.Num%n == 0 && r.Den%n == 0 {
			return true
		}
	}
	return false
}

// someBox returns a random box.
func someBox(r *rand.Rand) api.MouthBox {
	var b api.MouthBox
	share, most := 1+r.Intn(api.MaxMouthShare), r.Intn(api.MaxMouthMost+1)
	for range r.Intn(api.MaxMouthQuarters + 1) {
		b.Shares = append(b.Shares, r.Intn(share+1))
		if r.Intn(3) == 0 {
			b.Mosts = append(b.Mosts, api.MaxMouthMost)
		} else {
			b.Mosts = append(b.Mosts, r.Intn(most+1))
		}
	}
	return b
}

// eachBox calls a function with many boxes.
func eachBox(seed int64, many int, call func(r *rand.Rand, b api.MouthBox)) {
	r := rand.New(rand.NewSource(seed))
	for _, b := range plain() {
		call(r, b)
	}
	for range many {
		call(r, someBox(r))
	}
}

// eachFlow calls a function with many boxes, and with each flow.
func eachFlow(seed int64, many int, call func(r *rand.Rand, b api.MouthBox, flow int)) {
	eachBox(seed, many, func(r *rand.Rand, b api.MouthBox) {
		for flow := range api.MaxMouthFlow + 1 {
			call(r, b, flow)
		}
	})
}

// gaugesOf, overOf, exactOf and remaindersBy return results of valid arguments.
func gaugesOf(b api.MouthBox, flow int) []int {
	has, _ := mouths.Gauges(b, flow)
	return has
}

func overOf(b api.MouthBox, flow int) int {
	over, _ := mouths.Over(b, flow)
	return over
}

func exactOf(b api.MouthBox, flow int) []api.Ratio {
	parts, _ := mouths.Exact(b, flow)
	return parts
}

func remaindersBy(b api.MouthBox, flow int) []int {
	has, _ := mouths.Remainders(b, flow)
	return has
}

// anyNumber returns a random number, often one that is not valid.
func anyNumber(r *rand.Rand) int {
	some := list(math.MinInt, math.MinInt+1, -1, 0, 1, 20, 21, 39, 40, 41, math.MaxInt-1, math.MaxInt)
	if r.Intn(3) > 0 {
		return r.Intn(6)
	}
	return some[r.Intn(len(some))]
}
