// Package levels says between what the level of each well is, by what was
// sounded and by what the layers of rock leave.
package levels

import (
	"slices"

	"steening/api"
)

// Check returns ErrLevel unless a town is valid.
func Check(t api.LevelTown) api.Errno {
	if !valid(t) {
		return api.ErrLevel
	}
	return api.OK
}

// Holds reports whether a list is a truth; any list may be asked for.
func Holds(t api.LevelTown, levels []int) (bool, api.Errno) {
	if !valid(t) {
		return false, api.ErrLevel
	}
	return isTruth(t, levels), api.OK
}

// Level returns the least and the greatest level of a well in truths.
func Level(t api.LevelTown, well int) (api.Span, api.Errno) {
	k, e := learn(t, well)
	if e != api.OK {
		return api.Span{}, e
	}
	return k.level(well), api.OK
}

// Differ returns the least and the greatest number by which the level of b is
// greater than that of a in truths.
func Differ(t api.LevelTown, a, b int) (api.Span, api.Errno) {
	k, e := learn(t, a, b)
	if e != api.OK {
		return api.Span{}, e
	}
	return k.differ(point(a), point(b)), api.OK
}

// Lowest returns the truth in which each level is the least one of all truths.
func Lowest(t api.LevelTown) ([]int, api.Errno) {
	k, e := learn(t)
	if e != api.OK {
		return nil, e
	}
	var lowest []int
	for _, s := range k.levels() {
		lowest = append(lowest, s.Low)
	}
	return lowest, api.OK
}

// Highest returns the truth in which each level is the greatest one of all truths.
func Highest(t api.LevelTown) ([]int, api.Errno) {
	k, e := learn(t)
	if e != api.OK {
		return nil, e
	}
	var highest []int
	for _, s := range k.levels() {
		highest = append(highest, s.High)
	}
	return highest, api.OK
}

// Higher returns api.Surely if the level of a is greater than that of b in
// each truth, api.Never if in none, and api.Perhaps otherwise.
func Higher(t api.LevelTown, a, b int) (int, api.Errno) {
	k, e := learn(t, a, b)
	if e != api.OK {
		return 0, e
	}
	more := k.differ(point(b), point(a))
	switch {
	case more.Low > 0:
		return api.Surely, api.OK
	case more.High <= 0:
		return api.Never, api.OK
	}
	return api.Perhaps, api.OK
}

// Over returns all wells, ascending, whose level is at least a number in each
// truth; the number can be any one.
func Over(t api.LevelTown, level int) ([]int, api.Errno) {
	k, e := learn(t)
	if e != api.OK {
		return nil, e
	}
	var over []int
	for well, s := range k.levels() {
		if s.Low >= level {
			over = append(over, well)
		}
	}
	return over, api.OK
}

// Clash returns the fewest words, ascending, by which alone there would be no
// truth, the least list of several; ErrNone if there is a truth.
func Clash(t api.LevelTown) ([]int, api.Errno) {
	switch _, e := learn(t); e {
	case api.OK:
		return nil, api.ErrNone
	case api.ErrLevel:
		return nil, api.ErrLevel
	}
	words := wordsOf(t)
	for n := range len(words) + 1 {
		for list := range lists(len(words), n, ascends) {
			said := func(word int) bool { return slices.Contains(list, word) }
			if _, is := hear(t.Wells, words, said); !is {
				return slices.Clone(list), api.OK
			}
		}
	}
	return nil, api.ErrNone
}

// Idle returns all words, ascending, without each of which Level of each well
// is the same.
func Idle(t api.LevelTown) ([]int, api.Errno) {
	k, e := learn(t)
	if e != api.OK {
		return nil, e
	}
	words := wordsOf(t)
	var idle []int
	for left := range words {
		said := func(word int) bool { return word != left }
		// A truth of all words is one of fewer of them, so there is one.
		less, _ := hear(t.Wells, words, said)
		if slices.Equal(less.levels(), k.levels()) {
			idle = append(idle, left)
		}
	}
	return idle, api.OK
}

// Ask returns the well that should be sounded exactly, so that the width of
// the town is the least at the worst; ErrNone also if the width is 0.
func Ask(t api.LevelTown) (int, api.Errno) {
	k, e := learn(t)
	if e != api.OK {
		return 0, e
	}
	if k.width() == 0 {
		return 0, api.ErrNone
	}
	best, least := 0, k.worst(0)
	for well := range t.Wells {
		if worst := k.worst(well); worst < least {
			best, least = well, worst
		}
	}
	return best, api.OK
}

// Why returns the fewest wells by which the greatest level of a well is known,
// the least list of several.
func Why(t api.LevelTown, well int) ([]int, api.Errno) {
	k, e := learn(t, well)
	if e != api.OK {
		return nil, e
	}
	high := k.level(well).High
	for n := range t.Wells + 1 {
		for list := range lists(t.Wells, n, differs) {
			if leads(t, list, well, high) {
				return slices.Clone(list), api.OK
			}
		}
	}
	return nil, api.ErrNone
}
