package places

import (
	"slices"

	"steening/api"
)

// twoWorlds are two worlds that are left.
type twoWorlds struct {
	one, other int
}

// differ reports whether some old well forbids a spot in just one of two worlds.
func (w *working) differ(spot int, two twoWorlds) bool {
	for well := range w.Olds {
		if w.forbidsIn(two.one, spot, well) != w.forbidsIn(two.other, spot, well) {
			return true
		}
	}
	return false
}

// apart returns each two worlds that must be told apart to know who forbids a
// spot.
func (w *working) apart(spot int) []twoWorlds {
	var all []twoWorlds
	for n, one := range w.left {
		for _, other := range w.left[n+1:] {
			if two := (twoWorlds{one, other}); w.differ(spot, two) {
				all = append(all, two)
			}
		}
	}
	return all
}

// tests returns all tests of the old wells, in order.
func (w *working) tests() []api.QuarrelTest {
	var all []api.QuarrelTest
	for from := range w.Olds {
		for to := range w.Olds {
			all = append(all, api.QuarrelTest{From: from, To: to})
		}
	}
	return all
}

// shown returns what a test shows in a world.
func (w *working) shown(world int, test api.QuarrelTest) int {
	return w.Quarrel.Worlds[world].Falls[test.From][test.To]
}

// untold returns each two of those that must be told apart that a test does not
// tell apart.
func (w *working) untold(apart []twoWorlds, test api.QuarrelTest) []twoWorlds {
	var untold []twoWorlds
	for _, two := range apart {
		if w.shown(two.one, test) == w.shown(two.other, test) {
			untold = append(untold, two)
		}
	}
	return untold
}

// decide returns the fewest tests, if there are such tests, that decide who
// forbids a spot; of several lists the first one.
func (w *working) decide(spot int) (list []api.QuarrelTest, is bool) {
	// try reports whether so many of the tests tell all worlds apart that must
	// be. It puts the first such list down, the last test ahead.
	var try func(tests []api.QuarrelTest, many int, apart []twoWorlds) bool
	try = func(tests []api.QuarrelTest, many int, apart []twoWorlds) bool {
		if many == 0 {
			return len(apart) == 0
		}
		for n, test := range tests {
			if try(tests[n+1:], many-1, w.untold(apart, test)) {
				list = append(list, test)
				return true
			}
		}
		return false
	}
	tests, apart := w.tests(), w.apart(spot)
	// Fewer than there are worlds, since each one of the fewest tests tells two
	// worlds apart that those ahead of it do not.
	for many := range len(w.left) {
		if try(tests, many, apart) {
			slices.Reverse(list)
			return list, true
		}
	}
	return nil, false
}
