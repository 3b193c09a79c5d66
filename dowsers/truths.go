package dowsers

import (
	"slices"

	"steening/api"
)

// working is a book whose places are dug one after the other.
type working struct {
	api.DowseBook
	gains  [][]scores // the different ones that each place can bring
	failed map[dug]bool
}

// dug is how many places are dug, and the scores by what was found there.
type dug struct {
	places int
	scores scores
}

// work returns a book at whose places nothing has been tried yet.
func work(b api.DowseBook) *working {
	w := &working{DowseBook: b, failed: make(map[dug]bool)}
	for place := range w.Found {
		w.gains = append(w.gains, w.gainsAt(place))
	}
	return w
}

// gainsAt returns the different gains that a place can bring in a truth.
func (w *working) gainsAt(place int) []scores {
	can := api.Span{Low: 1, High: w.Depth}
	if found := w.Found[place]; found != api.DowseNot {
		can = api.Span{Low: found, High: found}
	}
	var all []scores
	for found := can.Low; found <= can.High; found++ {
		if one := gainOf(w.DowseBook, place, found); !slices.Contains(all, one) {
			all = append(all, one)
		}
	}
	return all
}

// canEnd reports whether the places that are not dug yet can bring so much that
// the scores of a truth are as is asked for.
func (w *working) canEnd(at dug, isSo func(s scores) bool) bool {
	if at.places == len(w.Found) {
		return isSo(at.scores)
	}
	if w.failed[at] {
		return false
	}
	for _, gain := range w.gains[at.places] {
		next := dug{places: at.places + 1, scores: at.scores.plus(gain)}
		if w.canEnd(next, isSo) {
			return true
		}
	}
	w.failed[at] = true
	return false
}

// canBe reports whether the scores of some truth are as is asked for.
func canBe(b api.DowseBook, isSo func(s scores) bool) bool {
	return work(b).canEnd(dug{}, isSo)
}

// between returns the least and the greatest score of a dowser in a truth.
func between(b api.DowseBook, dowser int) api.Span {
	var s api.Span
	for _, gains := range work(b).gains {
		least, most := gains[0][dowser], gains[0][dowser]
		for _, gain := range gains {
			least, most = min(least, gain[dowser]), max(most, gain[dowser])
		}
		s.Low += least
		s.High += most
	}
	return s
}

// leads returns whether a dowser leads: surely, never, or perhaps.
func leads(b api.DowseBook, dowser int) int {
	isFirst := func(s scores) bool { return s[dowser] == slices.Max(s[:b.Dowsers]) }
	isBehind := func(s scores) bool { return !isFirst(s) }
	switch {
	case !canBe(b, isBehind):
		return api.Surely
	case !canBe(b, isFirst):
		return api.Never
	}
	return api.Perhaps
}

// isSettled reports whether it is known of each dowser whether they lead.
func isSettled(b api.DowseBook) bool {
	for dowser := range b.Dowsers {
		if leads(b, dowser) == api.Perhaps {
			return false
		}
	}
	return true
}

// settles returns the first place, if there is one, that settles who leads,
// whatever is found there.
func settles(b api.DowseBook) (place int, is bool) {
places:
	for place, found := range b.Found {
		if found != api.DowseNot {
			continue
		}
		for depth := range b.Depth {
			if !isSettled(withFound(b, place, depth+1)) {
				continue places
			}
		}
		return place, true
	}
	return 0, false
}

// withFound returns a book in which somebody has dug at one place more.
func withFound(b api.DowseBook, place, found int) api.DowseBook {
	b.Found = slices.Clone(b.Found)
	b.Found[place] = found
	return b
}
