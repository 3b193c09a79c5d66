package dowsers

import "steening/api"

// guesses is how a dowser would have fared by guessing.
type guesses struct {
	depth int
	right int   // how many of the sayings are right
	ways  []int // in how many ways each number of them would be right by guessing
}

// guess returns how a dowser would have fared by guessing, where somebody has dug.
func guess(b api.DowseBook, dowser int) guesses {
	g := guesses{depth: b.Depth, ways: []int{1}}
	for _, said := range b.Sayings {
		if said.Dowser == dowser && !isOpen(b, said) {
			g = g.with(widthOf(said), isAsSaid(said, b.Found[said.Place]))
		}
	}
	return g
}

// with returns the guesses with one saying more.
func (g guesses) with(width int, isRight bool) guesses {
	ways := make([]int, len(g.ways)+1)
	for right, many := range g.ways {
		ways[right] += many * (g.depth - width)
		ways[right+1] += many * width
	}
	g.ways = ways
	if isRight {
		g.right++
	}
	return g
}

// asGood returns in how many ways as many sayings would be right, or more, and
// how many ways there are.
func (g guesses) asGood() (many, all int) {
	for right, ways := range g.ways {
		all += ways
		if right >= g.right {
			many += ways
		}
	}
	return many, all
}

// chance returns the chance of guessing as well, in lowest terms.
func (g guesses) chance() api.Ratio {
	many, all := g.asGood()
	divisor := greatestDivisor(many, all)
	return api.Ratio{Num: many / divisor, Den: all / divisor}
}

// isAtMost reports whether the chance is at most so many hundredths.
func (g guesses) isAtMost(hundredths int) bool {
	many, all := g.asGood()
	return 100*many <= hundredths*all
}

// greatestDivisor returns the greatest common divisor of two numbers above 0.
func greatestDivisor(a, b int) int {
	for b != 0 {
		a, b = b, a%b
	}
	return a
}
