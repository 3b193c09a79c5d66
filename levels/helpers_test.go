package levels_test

import (
	"math/rand"
	"slices"

	"steening/api"
	"steening/levels"
)

func sounding(well, low, high int) api.LevelSounding {
	return api.LevelSounding{Well: well, Low: low, High: high}
}

func slope(a, b, low, high int) api.LevelSlope {
	return api.LevelSlope{A: a, B: b, Low: low, High: high}
}

func span(low, high int) api.Span { return api.Span{Low: low, High: high} }

// townT and townQ are the towns T and Q of the chapter's examples.
func townT() api.LevelTown {
	return api.LevelTown{
		Wells:     3,
		Soundings: []api.LevelSounding{sounding(0, 10, 12), sounding(2, 20, 30)},
		Slopes:    []api.LevelSlope{slope(0, 1, 3, 5), slope(1, 2, 4, 8)},
	}
}

func townQ() api.LevelTown {
	t := townT()
	t.Soundings = append(t.Soundings, sounding(1, 18, 19))
	return t
}

// clone returns a town that shares no memory with another one.
func clone(t api.LevelTown) api.LevelTown {
	t.Soundings = slices.Clone(t.Soundings)
	t.Slopes = slices.Clone(t.Slopes)
	return t
}

// same reports whether two towns are the same.
func same(a, b api.LevelTown) bool {
	return a.Wells == b.Wells && slices.Equal(a.Soundings, b.Soundings) && slices.Equal(a.Slopes, b.Slopes)
}

// keep returns a town with those words alone that are kept.
func keep(t api.LevelTown, kept func(word int) bool) api.LevelTown {
	some := api.LevelTown{Wells: t.Wells}
	for n, s := range t.Soundings {
		if kept(n) {
			some.Soundings = append(some.Soundings, s)
		}
	}
	for n, s := range t.Slopes {
		if kept(len(t.Soundings) + n) {
			some.Slopes = append(some.Slopes, s)
		}
	}
	return some
}

// drop returns a town without a word.
func drop(t api.LevelTown, word int) api.LevelTown {
	return keep(t, func(n int) bool { return n != word })
}

// words returns the number of words of a town.
func words(t api.LevelTown) int { return len(t.Soundings) + len(t.Slopes) }

// agrees reports whether the levels of the first wells are as all words of
// these wells say.
func agrees(t api.LevelTown, first []int) bool {
	for _, s := range t.Soundings {
		if s.Well < len(first) && (first[s.Well] < s.Low || first[s.Well] > s.High) {
			return false
		}
	}
	for _, s := range t.Slopes {
		if s.A < len(first) && s.B < len(first) {
			if more := first[s.B] - first[s.A]; more < s.Low || more > s.High {
				return false
			}
		}
	}
	return true
}

// truths returns all truths of a town, found by trying all levels.
func truths(t api.LevelTown) [][]int {
	var all [][]int
	var try func(first []int)
	try = func(first []int) {
		if len(first) == t.Wells {
			all = append(all, slices.Clone(first))
			return
		}
		for level := 0; level <= api.MaxLevel; level++ {
			if next := append(first, level); agrees(t, next) {
				try(next)
			}
		}
	}
	try(make([]int, 0, t.Wells))
	return all
}

// possible reports whether a town has a truth: it raises levels from 0 on as
// long as a word asks for it.
func possible(t api.LevelTown) bool {
	level := make([]int, t.Wells)
	for raised := true; raised; {
		raised = false
		raise := func(well, to int) {
			if level[well] < to {
				level[well], raised = to, true
			}
		}
		for _, s := range t.Soundings {
			raise(s.Well, s.Low)
		}
		for _, s := range t.Slopes {
			raise(s.B, level[s.A]+s.Low)
			raise(s.A, level[s.B]-s.High)
		}
		if len(level) > 0 && slices.Max(level) > api.MaxLevel {
			return false
		}
	}
	return agrees(t, level)
}

// spans returns between what a number of each truth is.
func spans(all [][]int, number func(truth []int) int) api.Span {
	s := span(number(all[0]), number(all[0]))
	for _, truth := range all {
		s.Low, s.High = min(s.Low, number(truth)), max(s.High, number(truth))
	}
	return s
}

// widthOf returns the sum of the widths of all levels in truths.
func widthOf(all [][]int, wells int) int {
	width := 0
	for well := range wells {
		s := spans(all, func(truth []int) int { return truth[well] })
		width += s.High - s.Low
	}
	return width
}

// near returns a span of two numbers near another one, within low to high.
func near(r *rand.Rand, n, slack, low, high int) api.Span {
	return span(max(low, n-r.Intn(slack+1)), min(high, n+r.Intn(slack+1)))
}

// addWord adds a random word with which some levels agree.
func addWord(r *rand.Rand, t api.LevelTown, truth []int, slack int) api.LevelTown {
	t = clone(t)
	a := r.Intn(t.Wells)
	b := r.Intn(t.Wells)
	if a == b || r.Intn(2) == 0 {
		s := near(r, truth[a], slack, 0, api.MaxLevel)
		t.Soundings = append(t.Soundings, sounding(a, s.Low, s.High))
		return t
	}
	s := near(r, truth[b]-truth[a], slack, -api.MaxLevel, api.MaxLevel)
	t.Slopes = append(t.Slopes, slope(a, b, s.Low, s.High))
	return t
}

// someLevels returns random levels, near each other.
func someLevels(r *rand.Rand, wells int) []int {
	base := r.Intn(api.MaxLevel + 1)
	levels := make([]int, wells)
	for well := range levels {
		levels[well] = max(0, min(api.MaxLevel, base+r.Intn(31)-15))
	}
	return levels
}

// someTown returns a random town with a truth. Most of its wells are sounded,
// so that it has few truths.
func someTown(r *rand.Rand, wells int) (api.LevelTown, []int) {
	truth := someLevels(r, wells)
	t := api.LevelTown{Wells: wells}
	open := r.Intn(wells + 3)
	for well := range wells {
		if well != open {
			s := near(r, truth[well], 4, 0, api.MaxLevel)
			t.Soundings = append(t.Soundings, sounding(well, s.Low, s.High))
		}
	}
	for range r.Intn(4) {
		if wells > 0 {
			t = addWord(r, t, truth, 6)
		}
	}
	return t, truth
}

// anyTown returns a random town that may have no truth.
func anyTown(r *rand.Rand, wells int) api.LevelTown {
	t, _ := someTown(r, wells)
	for range r.Intn(4) {
		if wells > 0 {
			t = addWord(r, t, someLevels(r, wells), 15)
		}
	}
	return t
}

// wideTown returns a random town of any number of wells, with a truth.
func wideTown(r *rand.Rand) (api.LevelTown, []int) {
	wells := 1 + r.Intn(api.MaxLevelWells)
	truth := someLevels(r, wells)
	t := api.LevelTown{Wells: wells}
	for range r.Intn(14) {
		more := addWord(r, t, truth, 20)
		if levels.Check(more) == api.OK {
			t = more
		}
	}
	return t, truth
}

// tightTown returns a random town with few numbers, so that several lists of
// words, or of wells, are as short; it may have no truth.
func tightTown(r *rand.Rand) api.LevelTown {
	t := api.LevelTown{Wells: 3 + r.Intn(4)}
	for range 1 + r.Intn(3) {
		low := 40 + r.Intn(4)
		t.Soundings = append(t.Soundings, sounding(r.Intn(t.Wells), low, low+r.Intn(4)))
	}
	for range 3 + r.Intn(6) {
		a := r.Intn(t.Wells)
		b := (a + 1 + r.Intn(t.Wells-1)) % t.Wells
		low := r.Intn(6) - 4
		t.Slopes = append(t.Slopes, slope(a, b, low, low+r.Intn(4)))
	}
	return t
}
