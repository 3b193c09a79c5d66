package quarrels_test

import (
	"math/bits"
	"math/rand"
	"slices"

	"steening/api"
	"steening/quarrels"
)

// world returns a world of so many wells by its falls: those by the well 0, those
// by the well 1, and so on.
func world(wells int, falls ...int) api.QuarrelWorld {
	var w api.QuarrelWorld
	for n := range wells {
		w.Falls = append(w.Falls, slices.Clone(falls[n*wells:(n+1)*wells]))
	}
	return w
}

// facts returns facts of From, Many, To, Low and High that are given in turn.
func facts(numbers ...int) []api.QuarrelFact {
	var all []api.QuarrelFact
	for f := range slices.Chunk(numbers, 5) {
		all = append(all, api.QuarrelFact{From: f[0], Many: f[1], To: f[2], Low: f[3], High: f[4]})
	}
	return all
}

// tests returns tests of From and To that are given in turn.
func tests(numbers ...int) []api.QuarrelTest {
	var all []api.QuarrelTest
	for test := range slices.Chunk(numbers, 2) {
		all = append(all, api.QuarrelTest{From: test[0], To: test[1]})
	}
	return all
}

// townE is the town E of the chapter's examples.
func townE() api.QuarrelTown {
	return api.QuarrelTown{
		Wells:  2,
		Worlds: []api.QuarrelWorld{world(2, 3, 1, 0, 2), world(2, 3, 2, 1, 2), world(2, 3, 1, 2, 2)},
		Facts:  facts(0, 2, 1, 2, 3),
	}
}

// townG is the town G of the chapter's examples.
func townG() api.QuarrelTown {
	t := townE()
	t.Facts = nil
	return t
}

// widest returns the town with the greatest numbers of all. Each of its worlds
// but the first one is told apart from the others by one test.
func widest() api.QuarrelTown {
	t := api.QuarrelTown{Wells: 4}
	for n := range 6 {
		w := world(4, 9, 9, 9, 9, 9, 9, 9, 9, 9, 9, 9, 9, 9, 9, 9, 9)
		if n > 0 {
			w.Falls[(10+n)/4][(10+n)%4] = 8
		}
		t.Worlds = append(t.Worlds, w)
	}
	for range 6 {
		t.Facts = append(t.Facts, facts(0, 9, 3, 81, 99)...)
	}
	return t
}

// alike returns a town whose worlds are all alike.
func alike() api.QuarrelTown {
	w := world(1, 4)
	return api.QuarrelTown{Wells: 1, Worlds: []api.QuarrelWorld{w, w, w}}
}

// plain returns some towns at the ends of what can be; some world is left in each.
func plain() []api.QuarrelTown {
	return []api.QuarrelTown{
		{Worlds: []api.QuarrelWorld{{}}},
		{Worlds: []api.QuarrelWorld{{}, {Falls: [][]int{}}}},
		{Wells: 1, Worlds: []api.QuarrelWorld{world(1, 0), world(1, 9)}, Facts: facts(0, 9, 0, 81, 99, 0, 1, 0, 0, 99)},
		{Wells: 4, Worlds: []api.QuarrelWorld{world(4, make([]int, 16)...)}},
		alike(),
		townE(),
		townG(),
	}
}

// clone returns a town that shares no memory with another one.
func clone(t api.QuarrelTown) api.QuarrelTown {
	t.Worlds, t.Facts = slices.Clone(t.Worlds), slices.Clone(t.Facts)
	for n, w := range t.Worlds {
		t.Worlds[n].Falls = slices.Clone(w.Falls)
		for well, falls := range w.Falls {
			t.Worlds[n].Falls[well] = slices.Clone(falls)
		}
	}
	return t
}

// same reports whether two towns are the same.
func same(a, b api.QuarrelTown) bool {
	return a.Wells == b.Wells && slices.Equal(a.Facts, b.Facts) && slices.EqualFunc(a.Worlds, b.Worlds, areAlike)
}

// areAlike reports whether two worlds have the same falls.
func areAlike(a, b api.QuarrelWorld) bool {
	return slices.EqualFunc(a.Falls, b.Falls, slices.Equal)
}

// holds reports whether a fact is so in a world.
func holds(w api.QuarrelWorld, f api.QuarrelFact) bool {
	feet := 0
	for range f.Many {
		feet += w.Falls[f.From][f.To]
	}
	return f.Low <= feet && feet <= f.High
}

// leftIn returns the worlds of a town in which all facts are so.
func leftIn(t api.QuarrelTown) []api.QuarrelWorld {
	var left []api.QuarrelWorld
	for _, w := range t.Worlds {
		if !slices.ContainsFunc(t.Facts, func(f api.QuarrelFact) bool { return !holds(w, f) }) {
			left = append(left, w)
		}
	}
	return left
}

// allTests returns all tests of a town, in order.
func allTests(t api.QuarrelTown) []api.QuarrelTest {
	var all []api.QuarrelTest
	for n := range t.Wells * t.Wells {
		all = append(all, api.QuarrelTest{From: n / t.Wells, To: n % t.Wells})
	}
	return all
}

// shownIn returns what a test shows in a world.
func shownIn(w api.QuarrelWorld, test api.QuarrelTest) int {
	return w.Falls[test.From][test.To]
}

// asFact returns as a fact that a test has shown a fall.
func asFact(test api.QuarrelTest, shown int) api.QuarrelFact {
	return api.QuarrelFact{From: test.From, Many: 1, To: test.To, Low: shown, High: shown}
}

// spanOf returns from the least to the greatest of some numbers.
func spanOf(all []int) api.Span {
	return api.Span{Low: slices.Min(all), High: slices.Max(all)}
}

// fallsIn returns the falls of a well by another one in some worlds.
func fallsIn(all []api.QuarrelWorld, from, to int) []int {
	var falls []int
	for _, w := range all {
		falls = append(falls, w.Falls[from][to])
	}
	return falls
}

// loweredIn returns by how many feet each well lowers a well in a world.
func loweredIn(w api.QuarrelWorld, draws []int, well int) []int {
	var feet []int
	for from, many := range draws {
		feet = append(feet, many*w.Falls[from][well])
	}
	return feet
}

// harmsOf returns what is known of whether falls are greater than a law.
func harmsOf(falls []int, law int) int {
	greater := 0
	for _, fall := range falls {
		if fall > law {
			greater++
		}
	}
	switch greater {
	case 0:
		return api.Never
	case len(falls):
		return api.Surely
	}
	return api.Perhaps
}

// blameIn returns the one well that lowers a well the most in a world, -1 if
// there is none.
func blameIn(w api.QuarrelWorld, draws []int, well int) int {
	feet := loweredIn(w, draws, well)
	feet[well] = 0
	most := slices.Max(feet)
	one := slices.Index(feet, most)
	if most == 0 || slices.Contains(feet[one+1:], most) {
		return -1
	}
	return one
}

// groups returns some worlds by what a test shows in them.
func groups(all []api.QuarrelWorld, test api.QuarrelTest) [][]api.QuarrelWorld {
	var parts [][]api.QuarrelWorld
	for shown := range 1 + api.MaxQuarrelFall {
		var part []api.QuarrelWorld
		for _, w := range all {
			if shownIn(w, test) == shown {
				part = append(part, w)
			}
		}
		if len(part) > 0 {
			parts = append(parts, part)
		}
	}
	return parts
}

// leastTests returns the fewest of some tests that tell each two worlds apart of
// which something is so, of several lists the first one, found by going through
// all sets of tests.
func leastTests(all []api.QuarrelWorld, some []api.QuarrelTest, must func(a, b api.QuarrelWorld) bool) (best []api.QuarrelTest, is bool) {
	pairs, told := 0, make([]int, len(some))
	for n, a := range all {
		for _, b := range all[:n] {
			if !must(a, b) {
				continue
			}
			for k, test := range some {
				if shownIn(a, test) != shownIn(b, test) {
					told[k] |= 1 << pairs
				}
			}
			pairs++
		}
	}
	for set := range 1 << len(some) {
		if is && bits.OnesCount(uint(set)) > len(best) {
			continue
		}
		tells, list := 0, []api.QuarrelTest(nil)
		for rest := uint(set); rest != 0; rest &= rest - 1 {
			tells |= told[bits.TrailingZeros(rest)]
		}
		if tells != 1<<pairs-1 {
			continue
		}
		for n, test := range some {
			if set>>n&1 == 1 {
				list = append(list, test)
			}
		}
		if !is || comesFirst(list, best) {
			best, is = list, true
		}
	}
	return best, is
}

// comesFirst reports whether a list of tests has fewer tests than another one,
// or as many and is less.
func comesFirst(a, b []api.QuarrelTest) bool {
	if len(a) != len(b) {
		return len(a) < len(b)
	}
	return slices.CompareFunc(a, b, func(x, y api.QuarrelTest) int {
		return 10*(x.From-y.From) + x.To - y.To
	}) < 0
}

// suffices reports whether so many tests, one after the other, are enough for
// some worlds.
func suffices(t api.QuarrelTown, all []api.QuarrelWorld, many int) bool {
	if !slices.ContainsFunc(all, func(w api.QuarrelWorld) bool { return !areAlike(w, all[0]) }) {
		return true
	}
	if many == 0 {
		return false
	}
	return slices.ContainsFunc(allTests(t), func(test api.QuarrelTest) bool { return beginsWell(t, all, test, many) })
}

// beginsWell reports whether so many tests are enough for some worlds if one
// begins with a test.
func beginsWell(t api.QuarrelTown, all []api.QuarrelWorld, test api.QuarrelTest, many int) bool {
	return !slices.ContainsFunc(groups(all, test), func(part []api.QuarrelWorld) bool { return !suffices(t, part, many-1) })
}

// someWorld returns a random world of so many wells, with falls up to a number.
func someWorld(r *rand.Rand, wells, most int) api.QuarrelWorld {
	falls := make([]int, wells*wells)
	for n := range falls {
		falls[n] = r.Intn(most + 1)
	}
	return world(wells, falls...)
}

// someFact returns a random fact of a town, often one that is so in a world.
func someFact(r *rand.Rand, t api.QuarrelTown) api.QuarrelFact {
	f := api.QuarrelFact{From: r.Intn(t.Wells), Many: 1 + r.Intn(9), To: r.Intn(t.Wells)}
	if len(t.Worlds) > 0 && r.Intn(5) > 0 {
		feet := f.Many * t.Worlds[r.Intn(len(t.Worlds))].Falls[f.From][f.To]
		f.Low, f.High = max(0, feet-r.Intn(3*f.Many)), feet+r.Intn(2*f.Many)
		return f
	}
	f.Low = r.Intn(100)
	f.High = f.Low + r.Intn(100-f.Low)
	return f
}

// closeTo returns a world in which few falls are not as in another one.
func closeTo(r *rand.Rand, w api.QuarrelWorld, most int) api.QuarrelWorld {
	w = clone(api.QuarrelTown{Worlds: []api.QuarrelWorld{w}}).Worlds[0]
	for range r.Intn(3) {
		if n := len(w.Falls); n > 0 {
			w.Falls[r.Intn(n)][r.Intn(n)] = r.Intn(most + 1)
		}
	}
	return w
}

// someTown returns a random town with at most so many wells, worlds and facts.
func someTown(r *rand.Rand, wells, worlds, many int) api.QuarrelTown {
	t := api.QuarrelTown{Wells: r.Intn(wells + 1)}
	if r.Intn(2) == 0 {
		t.Wells = wells
	}
	most := 1 + r.Intn(r.Intn(9)+1)
	often := r.Intn(4)
	for range max(r.Intn(worlds+1), r.Intn(worlds+1)) {
		w := someWorld(r, t.Wells, most)
		if n := len(t.Worlds); n > 0 && r.Intn(3) < often {
			// So that not each test tells them apart.
			w = closeTo(r, t.Worlds[r.Intn(n)], most)
		}
		t.Worlds = append(t.Worlds, w)
	}
	for range r.Intn(many + 1) {
		if t.Wells > 0 {
			t.Facts = append(t.Facts, someFact(r, t))
		}
	}
	return t
}

// someDraws returns random draws of a town, each at most so many buckets.
func someDraws(r *rand.Rand, t api.QuarrelTown, most int) []int {
	draws := make([]int, t.Wells)
	for n := range draws {
		draws[n] = r.Intn(most + 1)
	}
	return draws
}

// eachTown calls a function with many towns of at most so many facts.
func eachTown(seed int64, many, most int, call func(r *rand.Rand, t api.QuarrelTown)) {
	r := rand.New(rand.NewSource(seed))
	for _, t := range append(plain(), widest()) {
		t.Facts = t.Facts[:min(most, len(t.Facts))]
		call(r, t)
	}
	for range many {
		call(r, someTown(r, 2+r.Intn(3), api.MaxQuarrelWorlds, most))
	}
}

// eachLeft calls a function with many towns in which some world is left, and
// these worlds.
func eachLeft(seed int64, many, most int, call func(r *rand.Rand, t api.QuarrelTown, left []api.QuarrelWorld)) {
	eachTown(seed, many, most, func(r *rand.Rand, t api.QuarrelTown) {
		if left := leftIn(t); len(left) > 0 {
			call(r, t, left)
		}
	})
}

// with returns a town with some facts more.
func with(t api.QuarrelTown, more ...api.QuarrelFact) api.QuarrelTown {
	t.Facts = slices.Concat(t.Facts, more)
	return t
}

// leftOf, fewestOf, depthOf, betweenOf, totalOf and harmsIn return results of
// towns that are valid.
func leftOf(t api.QuarrelTown) []int {
	left, _ := quarrels.Left(t)
	return left
}

func fewestOf(t api.QuarrelTown) []api.QuarrelTest {
	list, _ := quarrels.Fewest(t)
	return list
}

func depthOf(t api.QuarrelTown) int {
	depth, _ := quarrels.Depth(t)
	return depth
}

func betweenOf(t api.QuarrelTown, from, to int) api.Span {
	s, _ := quarrels.Between(t, from, to)
	return s
}

func totalOf(t api.QuarrelTown, draws []int, well int) api.Span {
	s, _ := quarrels.Total(t, draws, well)
	return s
}

func harmsIn(t api.QuarrelTown, from, to, law int) int {
	harms, _ := quarrels.Harms(t, from, to, law)
	return harms
}
