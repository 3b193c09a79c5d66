package quarrels

import (
	"slices"

	"steening/api"
)

// pair is two worlds that are to be told apart.
type pair struct {
	one, other int
}

// tests yields all tests of the town, in order.
func (w *working) tests(yield func(test api.QuarrelTest) bool) {
	for from := range w.Wells {
		for to := range w.Wells {
			if !yield(api.QuarrelTest{From: from, To: to}) {
				return
			}
		}
	}
}

// tells reports whether a test tells two worlds apart.
func (w *working) tells(test api.QuarrelTest, p pair) bool {
	return w.fall(p.one, test.From, test.To) != w.fall(p.other, test.From, test.To)
}

// areAlike reports whether no test tells two worlds apart.
func (w *working) areAlike(p pair) bool {
	for test := range w.tests {
		if w.tells(test, p) {
			return false
		}
	}
	return true
}

// pairs returns each two worlds that are left of which something is so.
func (w *working) pairs(isSo func(p pair) bool) []pair {
	var all []pair
	for one := range w.left.each {
		for other := range w.left.each {
			if p := (pair{one, other}); one < other && isSo(p) {
				all = append(all, p)
			}
		}
	}
	return all
}

// fewest returns the fewest tests that tell all worlds apart that are left, and
// not alike.
func (w *working) fewest() []api.QuarrelTest {
	apart := w.pairs(func(p pair) bool { return !w.areAlike(p) })
	list, _ := w.shortest(apart, slices.Collect(w.tests))
	return list
}

// decide returns the fewest tests but that of two wells itself, if there are
// such tests, that decide whether one harms the other one.
func (w *working) decide(from, to, law int) (list []api.QuarrelTest, is bool) {
	harms := func(world int) bool { return w.fall(world, from, to) > law }
	apart := w.pairs(func(p pair) bool { return harms(p.one) != harms(p.other) })
	itself := api.QuarrelTest{From: from, To: to}
	var others []api.QuarrelTest
	for test := range w.tests {
		if test != itself {
			others = append(others, test)
		}
	}
	return w.shortest(apart, others)
}

// shortest returns the shortest list, if there is one, of some tests that tell
// all pairs apart; of several the first one.
func (w *working) shortest(apart []pair, tests []api.QuarrelTest) (list []api.QuarrelTest, is bool) {
	// Fewer than there are worlds, since each test of such a list tells two
	// worlds apart that those ahead of it do not.
	for many := range w.left.count() {
		if list, is := w.first(apart, tests, many); is {
			return list, true
		}
	}
	return nil, false
}

// first returns the first list, if there is one, of so many of some tests that
// tell all pairs apart.
func (w *working) first(apart []pair, tests []api.QuarrelTest, many int) (list []api.QuarrelTest, is bool) {
	if many == 0 {
		return nil, len(apart) == 0
	}
	for n, test := range tests {
		isTold := func(p pair) bool { return w.tells(test, p) }
		untold := slices.DeleteFunc(slices.Clone(apart), isTold)
		if rest, is := w.first(untold, tests[n+1:], many-1); is {
			return append([]api.QuarrelTest{test}, rest...), true
		}
	}
	return nil, false
}

// behind returns, for each fall that a test can show, which of some worlds are
// left if it shows it.
func (w *working) behind(some worlds, test api.QuarrelTest) [1 + api.MaxQuarrelFall]worlds {
	var left [1 + api.MaxQuarrelFall]worlds
	for world := range some.each {
		shown := w.fall(world, test.From, test.To)
		left[shown] = left[shown].with(world)
	}
	return left
}

// split returns how many worlds are left at the most behind a test.
func (w *working) split(test api.QuarrelTest) int {
	most := 0
	for _, left := range w.behind(w.left, test) {
		most = max(most, left.count())
	}
	return most
}

// depth returns how many tests, one after the other, are enough until all of
// some worlds that are left are alike.
func (w *working) depth(some worlds) int {
	if many, is := w.enough[some]; is {
		return many
	}
	least := 0
	for test := range w.tests {
		if many, is := w.depthWith(test, some); is && (least == 0 || many < least) {
			least = many
		}
	}
	w.enough[some] = least
	return least
}

// depthWith returns how many tests are enough for some worlds if one begins
// with a test, if that tells any of them apart.
func (w *working) depthWith(test api.QuarrelTest, some worlds) (many int, is bool) {
	for _, left := range w.behind(some, test) {
		if left == some {
			return 0, false
		}
		many = max(many, w.depth(left))
	}
	return 1 + many, true
}

// next returns the first test, if any is needed, with which one can begin.
func (w *working) next() (test api.QuarrelTest, is bool) {
	enough := w.depth(w.left)
	for test := range w.tests {
		if many, is := w.depthWith(test, w.left); is && many == enough {
			return test, true
		}
	}
	return api.QuarrelTest{}, false
}
