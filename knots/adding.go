package knots

import (
	"iter"

	"steening/api"
)

// work is a book at work.
type work struct {
	api.KnotBook

	// can tells which digits a cluster can have, and carries what a place can
	// carry on: by other ones questions are asked of the same book.
	can     func(cord, place, digit int) bool
	carries func(place, carry int) bool
}

// tally is how few knots must be tied and untied for something, and in how many
// ways it comes about by so few; there are no ways if it cannot.
type tally struct {
	knots, ways int
}

// sums has a tally for each sum of digits at one place.
type sums [api.MaxKnotCords*(api.MaxKnotBase-1) + 1]tally

// carried has a tally for each number that is carried on: it is less than there
// are cords.
type carried [api.MaxKnotCords]tally

// reading returns the book at work with the digits that are read.
func reading(b api.KnotBook) work {
	w := retying(b)
	w.can = w.isRead
	return w
}

// retying returns the book at work with all digits, since knots are tied and
// untied.
func retying(b api.KnotBook) work {
	return work{
		KnotBook: b,
		can:      func(_, _, _ int) bool { return true },
		carries:  func(_, _ int) bool { return true },
	}
}

// top returns the top cord.
func (w work) top() int {
	return len(w.Cords)
}

// isRead reports whether a digit is from Low to High of its cluster.
func (w work) isRead(cord, place, digit int) bool {
	return w.knots(cord, place, digit) == 0
}

// knots returns how many knots are tied or untied for a digit.
func (w work) knots(cord, place, digit int) int {
	s := tied(w.KnotBook, cord)[place]
	return max(s.Low-digit, digit-s.High, 0)
}

// digits goes through the digits that a cluster can have.
func (w work) digits(cord, place int) iter.Seq[int] {
	return func(yield func(digit int) bool) {
		for digit := range w.Base {
			if w.can(cord, place, digit) && !yield(digit) {
				return
			}
		}
	}
}

// tally returns the tally of all digits with which the cords together are the top
// cord: the places are added up from the last one on, and nothing is carried
// from the first one.
func (w work) tally() tally {
	behind := carried{{ways: 1}}
	for place := w.Places - 1; place >= 0; place-- {
		behind = w.add(place, behind)
	}
	return behind[0]
}

// add returns the tallies of what is carried from a place by those of what is
// carried to it.
func (w work) add(place int, behind carried) carried {
	var all carried
	for sum, digits := range w.sums(place) {
		for carry, before := range behind {
			t := digits.and(before)
			digit, next := (sum+carry)%w.Base, (sum+carry)/w.Base
			if t.ways > 0 && w.can(w.top(), place, digit) && w.carries(place, next) {
				t.knots += w.knots(w.top(), place, digit)
				all[next] = all[next].or(t)
			}
		}
	}
	return all
}

// sums returns the tallies of what the digits of all cords but the top one are
// together at a place.
func (w work) sums(place int) sums {
	all := sums{{ways: 1}}
	for cord := range w.Cords {
		all = w.plus(all, cord, place)
	}
	return all
}

// plus returns the tallies of sums with the digits of one cord more.
func (w work) plus(before sums, cord, place int) sums {
	var all sums
	for digit := range w.digits(cord, place) {
		one := tally{w.knots(cord, place, digit), 1}
		for sum, t := range before[:len(before)-digit] {
			if t.ways > 0 {
				all[sum+digit] = all[sum+digit].or(t.and(one))
			}
		}
	}
	return all
}

// and returns the tally of two things that come about together.
func (t tally) and(other tally) tally {
	return tally{t.knots + other.knots, t.ways * other.ways}
}

// or returns the tally of what comes about as the one thing, if it can, or as the
// other one, which can.
func (t tally) or(other tally) tally {
	switch {
	case t.ways == 0 || other.knots < t.knots:
		return other
	case t.knots < other.knots:
		return t
	}
	return tally{t.knots, t.ways + other.ways}
}
