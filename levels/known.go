package levels

import (
	"iter"

	"steening/api"
)

// The ground is a point with the level 0, so that a sounding says of it and a
// well what a slope says of two wells. The wells are the points behind it.
const (
	ground = 0
	points = 1 + api.MaxLevelWells
)

func point(well int) int { return well + 1 }

// word says between what the level of a point is, less that of another one.
type word struct {
	from, to, low, high int
}

// wordsOf returns the words of a town, in their order.
func wordsOf(t api.LevelTown) []word {
	var words []word
	for _, s := range t.Soundings {
		words = append(words, word{ground, point(s.Well), s.Low, s.High})
	}
	for _, s := range t.Slopes {
		words = append(words, word{point(s.A), point(s.B), s.Low, s.High})
	}
	return words
}

// known is what is known of the levels of so many wells: most[p][q] is the
// greatest number by which the level of the point q is greater than that of p.
type known struct {
	wells int
	most  [points][points]int
}

// unheard returns what is known if nothing was said.
func unheard(wells int) known {
	k := known{wells: wells}
	for p := range points {
		for q := range points {
			if p != q && q != ground {
				k.most[p][q] = api.MaxLevel
			}
		}
	}
	return k
}

// bound is told that the level of q is greater than that of p by at most a
// number. It reports whether there is still a truth.
func (k *known) bound(p, q, most int) bool {
	if most+k.most[q][p] < 0 {
		return false
	}
	if most >= k.most[p][q] {
		return true
	}
	// Each way from one point to another one either stays what it was or goes
	// once from p to q. What is read in this loop is not changed by it, since
	// to go there and back again is never a gain.
	for from := range points {
		for to := range points {
			through := k.most[from][p] + most + k.most[q][to]
			k.most[from][to] = min(k.most[from][to], through)
		}
	}
	return true
}

// add is told a word. It reports whether there is still a truth.
func (k *known) add(w word) bool {
	return k.bound(w.from, w.to, w.high) && k.bound(w.to, w.from, -w.low)
}

// hear returns what is known by those words that were said, and whether there
// is a truth.
func hear(wells int, words []word, said func(word int) bool) (known, bool) {
	k := unheard(wells)
	for n, w := range words {
		if said(n) && !k.add(w) {
			return known{}, false
		}
	}
	return k, true
}

// learn returns what is known by all words of a town, with the errors that all
// functions share, in their order.
func learn(t api.LevelTown, wells ...int) (known, api.Errno) {
	if !valid(t) {
		return known{}, api.ErrLevel
	}
	for _, well := range wells {
		if !isWell(t, well) {
			return known{}, api.ErrArg
		}
	}
	k, is := hear(t.Wells, wordsOf(t), func(int) bool { return true })
	if !is {
		return known{}, api.ErrNone
	}
	return k, api.OK
}

// differ returns between what the level of q is, less that of p.
func (k *known) differ(p, q int) api.Span {
	return api.Span{Low: -k.most[q][p], High: k.most[p][q]}
}

// level returns between what the level of a well is.
func (k *known) level(well int) api.Span {
	return k.differ(ground, point(well))
}

// levels returns between what the level of each well is.
func (k *known) levels() []api.Span {
	var levels []api.Span
	for well := range k.wells {
		levels = append(levels, k.level(well))
	}
	return levels
}

// width returns the width of the town.
func (k *known) width() int {
	width := 0
	for _, s := range k.levels() {
		width += s.High - s.Low
	}
	return width
}

// worst returns the width that is left at the worst if a well is sounded.
func (k *known) worst(well int) int {
	worst := 0
	for level := range numbers(k.level(well)) {
		sounded := *k
		// Each number within Level is the level in some truth.
		sounded.add(word{ground, point(well), level, level})
		worst = max(worst, sounded.width())
	}
	return worst
}

// numbers yields all numbers of a span.
func numbers(s api.Span) iter.Seq[int] {
	return func(yield func(int) bool) {
		for n := s.Low; n <= s.High; n++ {
			if !yield(n) {
				return
			}
		}
	}
}
