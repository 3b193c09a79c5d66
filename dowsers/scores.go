package dowsers

import (
	"cmp"
	"slices"

	"steening/api"
)

// scores are the scores of all dowsers; a dowser that is not of the book has 0.
type scores [api.MaxDowsers]int

// plus returns the sum of scores, dowser by dowser.
func (s scores) plus(more scores) scores {
	for dowser, score := range more {
		s[dowser] += score
	}
	return s
}

// gainOf returns the points of all dowsers if so much is found at a place.
func gainOf(b api.DowseBook, place, found int) scores {
	var s scores
	for _, said := range b.Sayings {
		if said.Place == place {
			s[said.Dowser] += pointsOf(b, said, found)
		}
	}
	return s
}

// scoresOf returns the scores of all dowsers where somebody has dug.
func scoresOf(b api.DowseBook) scores {
	var s scores
	for place, found := range b.Found {
		if found != api.DowseNot {
			s = s.plus(gainOf(b, place, found))
		}
	}
	return s
}

// greatestFirst returns the places of a list, that of the greatest number
// first, of those of the same number the least one.
func greatestFirst(list []int) []int {
	var order []int
	for place := range list {
		order = append(order, place)
	}
	slices.SortStableFunc(order, func(a, b int) int { return cmp.Compare(list[b], list[a]) })
	return order
}

// pay returns what each dowser gets of the pence.
func pay(b api.DowseBook) []int {
	var above scores
	all := 0
	for dowser, score := range scoresOf(b) {
		above[dowser] = max(0, score)
		all += above[dowser]
	}
	paid := make([]int, b.Dowsers)
	if all == 0 {
		return paid
	}
	left := b.Pence
	cut := make([]int, b.Dowsers)
	for dowser := range paid {
		share := b.Pence * above[dowser]
		paid[dowser], cut[dowser] = share/all, share%all
		left -= paid[dowser]
	}
	// From more than so many something was cut off, since from each it was
	// less than a penny.
	for _, dowser := range greatestFirst(cut)[:left] {
		paid[dowser]++
	}
	return paid
}
