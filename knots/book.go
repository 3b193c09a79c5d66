package knots

import "steening/api"

// valid reports whether a book is valid.
func valid(b api.KnotBook) bool {
	if !isFrom(b.Base, api.MinKnotBase, api.MaxKnotBase) || !isFrom(b.Places, 1, api.MaxKnotPlaces) {
		return false
	}
	if len(b.Cords) > api.MaxKnotCords {
		return false
	}
	for cord := range len(b.Cords) + 1 {
		if !isTied(b, tied(b, cord)) {
			return false
		}
	}
	return true
}

// isTied reports whether clusters are such as a cord of the book can have.
func isTied(b api.KnotBook, clusters []api.Span) bool {
	if len(clusters) != b.Places {
		return false
	}
	for _, s := range clusters {
		if !isFrom(s.Low, 0, s.High) || s.High >= b.Base {
			return false
		}
	}
	return true
}

// isFrom reports whether a number is from one to another one.
func isFrom(n, low, high int) bool {
	return n >= low && n <= high
}

// isCord reports whether a cord is one of the book, the top cord being one, too.
func isCord(b api.KnotBook, cord int) bool {
	return isFrom(cord, 0, len(b.Cords))
}

// isPlace reports whether a place is one of the book.
func isPlace(b api.KnotBook, place int) bool {
	return place >= 0 && place < b.Places
}

// tied returns the clusters of a cord.
func tied(b api.KnotBook, cord int) []api.Span {
	if cord == len(b.Cords) {
		return b.Top
	}
	return b.Cords[cord]
}

// check returns the errors that all functions share, in their order: the book
// must be valid, and what is asked for must be such as can be.
func check(b api.KnotBook, canBe bool) api.Errno {
	if !valid(b) {
		return api.ErrKnot
	}
	if !canBe {
		return api.ErrArg
	}
	return api.OK
}
