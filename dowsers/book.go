package dowsers

import "steening/api"

// valid reports whether a book is valid.
func valid(b api.DowseBook) bool {
	if !isFrom(b.Depth, 1, api.MaxDowseDepth) || len(b.Found) > api.MaxDowsePlaces {
		return false
	}
	if !isFrom(b.Dowsers, 0, api.MaxDowsers) || !isFrom(b.Pence, 0, api.MaxDowsePence) {
		return false
	}
	for _, found := range b.Found {
		if found != api.DowseNot && !isFrom(found, 1, b.Depth) {
			return false
		}
	}
	for n, said := range b.Sayings {
		if !canBeSaid(b, said) || n > 0 && !isAhead(b.Sayings[n-1], said) {
			return false
		}
	}
	return true
}

// isFrom reports whether a number is from one to another one.
func isFrom(n, low, high int) bool {
	return n >= low && n <= high
}

// canBeSaid reports whether a saying is of a dowser and a place of the book, and
// of depths that can be.
func canBeSaid(b api.DowseBook, said api.DowseSaying) bool {
	if !isDowser(b, said.Dowser) || !isFrom(said.Place, 0, len(b.Found)-1) {
		return false
	}
	return isFrom(said.Low, 1, b.Depth) && isFrom(said.High, said.Low, b.Depth)
}

// isAhead reports whether a saying comes before another one.
func isAhead(a, b api.DowseSaying) bool {
	if a.Dowser != b.Dowser {
		return a.Dowser < b.Dowser
	}
	return a.Place < b.Place
}

// isDowser reports whether a dowser is one of the book.
func isDowser(b api.DowseBook, dowser int) bool {
	return isFrom(dowser, 0, b.Dowsers-1)
}

// isSaying reports whether a saying is one of the book.
func isSaying(b api.DowseBook, saying int) bool {
	return isFrom(saying, 0, len(b.Sayings)-1)
}

// areHundredths reports whether a chance can be asked for in so many hundredths.
func areHundredths(n int) bool {
	return isFrom(n, 1, 99)
}

// isOpen reports whether nobody has dug at the place of a saying.
func isOpen(b api.DowseBook, said api.DowseSaying) bool {
	return b.Found[said.Place] == api.DowseNot
}

// isAsSaid reports whether what is found at the place of a saying is as said.
func isAsSaid(said api.DowseSaying, found int) bool {
	return isFrom(found, said.Low, said.High)
}

// hitOf returns whether a saying is right: surely, never, or perhaps.
func hitOf(b api.DowseBook, said api.DowseSaying) int {
	switch {
	case isOpen(b, said):
		return api.Perhaps
	case isAsSaid(said, b.Found[said.Place]):
		return api.Surely
	}
	return api.Never
}

// widthOf returns the number of depths of a saying.
func widthOf(said api.DowseSaying) int {
	return said.High - said.Low + 1
}

// pointsOf returns the points of a saying if so much is found at its place.
func pointsOf(b api.DowseBook, said api.DowseSaying, found int) int {
	if isAsSaid(said, found) {
		return b.Depth - widthOf(said)
	}
	return -widthOf(said)
}
