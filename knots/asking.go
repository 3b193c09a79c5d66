package knots

import "steening/api"

// spot is where a cluster is.
type spot struct {
	cord, place int
}

// where returns the book in which a cluster can have no digits but some.
func (w work) where(at spot, some func(digit int) bool) work {
	can := w.can
	w.can = func(cord, place, digit int) bool {
		return can(cord, place, digit) && (spot{cord, place} != at || some(digit))
	}
	return w
}

// only returns the book in which a cluster can have no digit but one.
func (w work) only(at spot, one int) work {
	return w.where(at, func(digit int) bool { return digit == one })
}

// carrying returns the book in which a place carries just one number on.
func (w work) carrying(at, one int) work {
	w.carries = func(place, carry int) bool { return place != at || carry == one }
	return w
}

// among returns the least and the greatest number below an end with which a book
// has a right reading, if there is one.
func among(end int, with func(n int) work) (all api.Span, is bool) {
	for n := range end {
		if with(n).tally().ways == 0 {
			continue
		}
		if !is {
			all.Low, is = n, true
		}
		all.High = n
	}
	return all, is
}

// cluster returns the least and the greatest digit that a cluster has in right
// readings.
func (w work) cluster(cord, place int) (api.Span, bool) {
	return among(w.Base, func(digit int) work { return w.only(spot{cord, place}, digit) })
}

// carry returns the least and the greatest number that is carried from a place in
// right readings.
func (w work) carry(place int) (api.Span, bool) {
	return among(len(carried{}), func(carry int) work { return w.carrying(place, carry) })
}

// sure returns the least and the greatest number of a cord in right readings.
func (w work) sure(cord int) (api.Span, bool) {
	low, is := w.end(cord, func(s api.Span) int { return s.Low })
	high, _ := w.end(cord, func(s api.Span) int { return s.High })
	return api.Span{Low: low, High: high}, is
}

// end returns the number at an end of what a cord is in right readings: each
// digit is at that end of what those before it leave.
func (w work) end(cord int, of func(s api.Span) int) (number int, is bool) {
	var digits []int
	for place := range w.Places {
		s, is := w.cluster(cord, place)
		if !is {
			return 0, false
		}
		digits = append(digits, of(s))
		w = w.only(spot{cord, place}, of(s))
	}
	return numberOf(w.Base, digits...), true
}

// ask returns the cluster that leaves the fewest right readings at the worst, if
// there are two of them.
func (w work) ask() (best spot, is bool) {
	all := w.tally().ways
	// Two right readings differ at some cluster, which leaves fewer than all.
	least := all
	for cord := range w.top() + 1 {
		for place := range w.Places {
			if worst := w.worst(spot{cord, place}); worst < least {
				best, least = spot{cord, place}, worst
			}
		}
	}
	return best, all > 1
}

// worst returns the greatest number of right readings that have the same digit at
// a cluster.
func (w work) worst(at spot) int {
	worst := 0
	for digit := range w.digits(at.cord, at.place) {
		worst = max(worst, w.only(at, digit).tally().ways)
	}
	return worst
}

// blame returns all cords of which some digit that is not read comes about by the
// fewest knots.
func (w work) blame() []int {
	var list []int
	fewest := w.tally().knots
cords:
	for cord := range w.top() + 1 {
		for place := range w.Places {
			t := w.where(spot{cord, place}, func(digit int) bool { return !w.isRead(cord, place, digit) }).tally()
			if t.ways > 0 && t.knots == fewest {
				list = append(list, cord)
				continue cords
			}
		}
	}
	return list
}
