package places_test

import (
	"math/bits"
	"math/rand"
	"slices"

	"steening/api"
	"steening/places"
	"steening/shafts"
)

func list(l ...int) []int { return l }

func rock(hours, pence, stand, seat int) api.ShaftRock {
	return api.ShaftRock{Hours: hours, Pence: pence, Stand: stand, Seat: seat}
}

// feet returns a shaft of so many feet of the rock of the chapter's examples.
func feet(many int) api.Shaft {
	return api.Shaft{Rocks: []api.ShaftRock{rock(1, 5, 3, 2)}, Feet: make([]int, many)}
}

// loose returns a shaft that cannot be dug.
func loose() api.Shaft {
	return api.Shaft{Rocks: []api.ShaftRock{rock(1, 1, 0, 1)}, Feet: list(0)}
}

// wide returns the dearest shaft.
func wide() api.Shaft {
	return api.Shaft{Rocks: slices.Repeat([]api.ShaftRock{rock(9, 99, 1, 99)}, 4), Feet: slices.Repeat(list(3), 12), Deep: 9, Haul: 9, Rest: 9}
}

// spot returns a spot by where it is, its shaft, and its falls in each world.
func spot(at int, s api.Shaft, falls ...[]int) api.PlaceSpot {
	return api.PlaceSpot{At: at, Shaft: s, Falls: falls}
}

// world returns a world by the falls by each well.
func world(falls ...[]int) api.QuarrelWorld {
	return api.QuarrelWorld{Falls: falls}
}

// fact returns the fact that a bucket drawn from a well lowered another one by so
// many feet.
func fact(from, to, feet int) api.QuarrelFact {
	return api.QuarrelFact{From: from, Many: 1, To: to, Low: feet, High: feet}
}

// tests returns tests of From and To that are given in turn.
func tests(numbers ...int) []api.QuarrelTest {
	var all []api.QuarrelTest
	for test := range slices.Chunk(numbers, 2) {
		all = append(all, api.QuarrelTest{From: test[0], To: test[1]})
	}
	return all
}

// townP is the town P of the chapter's examples.
func townP() api.PlaceTown {
	return api.PlaceTown{
		Quarrel: api.QuarrelTown{Wells: 2, Worlds: []api.QuarrelWorld{world(list(1, 0), list(0, 1)), world(list(1, 2), list(0, 1))}},
		Olds:    list(10, 50),
		Pence:   list(7, 4),
		Spots: []api.PlaceSpot{
			spot(15, feet(3), list(0, 0), list(0, 1)),
			spot(30, feet(4), list(1, 2), list(1, 3)),
			spot(80, feet(6), list(0, 2), list(0, 2)),
		},
		Far: 8, Harm: 6, Many: 3,
	}
}

// noWorlds returns a town in which no world is left.
func noWorlds() api.PlaceTown {
	return with(townP(), func(t *api.PlaceTown) { t.Quarrel.Facts = []api.QuarrelFact{fact(0, 0, 9)} })
}

// desert returns a town without old wells, with one world and some spots.
func desert(spots ...api.PlaceSpot) api.PlaceTown {
	for n := range spots {
		spots[n].Falls = [][]int{nil}
	}
	return api.PlaceTown{Quarrel: api.QuarrelTown{Worlds: make([]api.QuarrelWorld, 1)}, Spots: spots}
}

// widest returns the town with the greatest numbers of all. Each of its worlds
// but the first one is told apart from the others by one test.
func widest() api.PlaceTown {
	nines := list(9, 9, 9, 9)
	t := api.PlaceTown{Quarrel: api.QuarrelTown{Wells: 4}, Olds: list(99, 99, 99, 99), Pence: list(99, 99, 99, 99), Far: 99, Harm: 99, Many: 9}
	for n := range 6 {
		w := clone(api.PlaceTown{Quarrel: api.QuarrelTown{Worlds: []api.QuarrelWorld{world(nines, nines, nines, nines)}}}).Quarrel.Worlds[0]
		if n > 0 {
			w.Falls[(10+n)/4][(10+n)%4] = 8
		}
		t.Quarrel.Worlds = append(t.Quarrel.Worlds, w)
		t.Quarrel.Facts = append(t.Quarrel.Facts, api.QuarrelFact{From: 0, Many: 9, To: 3, Low: 81, High: 99})
	}
	for range 5 {
		t.Spots = append(t.Spots, spot(99, wide(), nines, nines, nines, nines, nines, nines))
	}
	return t
}

// chain returns a town whose worlds are told apart by a test each. All that is
// known of who forbids its one spot is that it is another well, or another set of
// wells, in each world.
func chain() api.PlaceTown {
	return with(widest(), func(t *api.PlaceTown) {
		t.Spots = t.Spots[:1]
		t.Far, t.Harm, t.Many = 0, 0, 1
		for n := range t.Spots[0].Falls {
			t.Spots[0].Falls[n] = list(n&1, n>>1&1, n>>2, 0)
		}
	})
}

// plain returns some towns at the ends of what can be.
func plain() []api.PlaceTown {
	return []api.PlaceTown{
		{},
		desert(),
		desert(spot(0, feet(0)), spot(99, feet(12)), spot(50, loose())),
		{Spots: []api.PlaceSpot{spot(3, feet(2))}},
		with(townP(), func(t *api.PlaceTown) { t.Spots = nil }),
		with(townP(), func(t *api.PlaceTown) { t.Far, t.Harm, t.Many = 0, 0, 0 }),
		with(townP(), func(t *api.PlaceTown) { t.Far, t.Harm, t.Many = 0, 0, 9 }),
		with(townP(), func(t *api.PlaceTown) { t.Spots[2].Shaft = loose() }),
		with(townP(), func(t *api.PlaceTown) { t.Olds, t.Pence = list(0, 99), list(0, 99) }),
		noWorlds(),
		widest(),
		chain(),
		townP(),
	}
}

// cloneLists returns lists that share no memory with others.
func cloneLists(lists [][]int) [][]int {
	lists = slices.Clone(lists)
	for n, l := range lists {
		lists[n] = slices.Clone(l)
	}
	return lists
}

// clone returns a town that shares no memory with another one.
func clone(t api.PlaceTown) api.PlaceTown {
	t.Quarrel.Worlds, t.Quarrel.Facts = slices.Clone(t.Quarrel.Worlds), slices.Clone(t.Quarrel.Facts)
	for n, w := range t.Quarrel.Worlds {
		t.Quarrel.Worlds[n].Falls = cloneLists(w.Falls)
	}
	t.Olds, t.Pence, t.Spots = slices.Clone(t.Olds), slices.Clone(t.Pence), slices.Clone(t.Spots)
	for n, s := range t.Spots {
		t.Spots[n].Shaft.Rocks, t.Spots[n].Shaft.Feet = slices.Clone(s.Shaft.Rocks), slices.Clone(s.Shaft.Feet)
		t.Spots[n].Falls = cloneLists(s.Falls)
	}
	return t
}

// with returns a town in which something is changed.
func with(t api.PlaceTown, change func(t *api.PlaceTown)) api.PlaceTown {
	t = clone(t)
	change(&t)
	return t
}

// leftIn returns the worlds of a town in which all facts are so.
func leftIn(t api.PlaceTown) []int {
	var left []int
	for n, w := range t.Quarrel.Worlds {
		is := true
		for _, f := range t.Quarrel.Facts {
			sunk := 0
			for range f.Many {
				sunk += w.Falls[f.From][f.To]
			}
			is = is && f.Low <= sunk && sunk <= f.High
		}
		if is {
			left = append(left, n)
		}
	}
	return left
}

// forbidIn returns the old wells that forbid a spot in a world: each is gone to
// foot by foot, and lowered bucket by bucket.
func forbidIn(t api.PlaceTown, world, spot int) []int {
	var wells []int
	s := t.Spots[spot]
	for well, at := range t.Olds {
		far, sunk := 0, 0
		for place := min(at, s.At); place < max(at, s.At); place++ {
			far++
		}
		for range t.Many {
			sunk += s.Falls[world][well]
		}
		if far < t.Far || sunk > t.Harm {
			wells = append(wells, well)
		}
	}
	return wells
}

// whoIn returns the old wells that forbid a spot in some world that is left, and
// those that forbid it in each.
func whoIn(t api.PlaceTown, spot int) (some, each []int) {
	for well := range t.Olds {
		many := 0
		for _, world := range leftIn(t) {
			if slices.Contains(forbidIn(t, world, spot), well) {
				many++
			}
		}
		if many > 0 {
			some = append(some, well)
		}
		if many == len(leftIn(t)) {
			each = append(each, well)
		}
	}
	return some, each
}

// undug is the price of what cannot be dug.
const undug = -1

// priceIn returns what the cheapest plan of the shaft of a spot costs, found by
// trying all stops; undug if there is no plan.
func priceIn(t api.PlaceTown, spot int) int {
	s, cheap := t.Spots[spot].Shaft, undug
	for set := range 1 << len(s.Feet) {
		var stops []int
		for n := range s.Feet {
			if set>>n&1 == 1 {
				stops = append(stops, n+1)
			}
		}
		if pence, _, e := shafts.Cost(s, stops); e == api.OK && (cheap == undug || pence < cheap) {
			cheap = pence
		}
	}
	return cheap
}

// pricesIn returns the prices, and the whole prices, of all spots.
func pricesIn(t api.PlaceTown) (prices, wholes []int) {
	for n := range t.Spots {
		price := priceIn(t, n)
		whole := price
		if price != undug {
			some, _ := whoIn(t, n)
			for _, well := range some {
				whole += t.Pence[well]
			}
		}
		prices, wholes = append(prices, price), append(wholes, whole)
	}
	return prices, wholes
}

// freeIn returns all spots with a price that nobody forbids.
func freeIn(t api.PlaceTown, prices []int) []int {
	var free []int
	for n, price := range prices {
		if some, _ := whoIn(t, n); price != undug && len(some) == 0 {
			free = append(free, n)
		}
	}
	return free
}

// leastIn returns the first one of some spots with the least price, undug if
// there are no spots.
func leastIn(spots, prices []int) int {
	best := undug
	for _, n := range spots {
		if best == undug || prices[n] < prices[best] {
			best = n
		}
	}
	return best
}

// dugIn returns all spots with a price.
func dugIn(prices []int) []int {
	var dug []int
	for n, price := range prices {
		if price != undug {
			dug = append(dug, n)
		}
	}
	return dug
}

// pairsIn returns all pairs of spots that can be dug and are far enough apart,
// those with the least whole prices together first, and of these the one that
// comes first.
func pairsIn(t api.PlaceTown, wholes []int) [][]int {
	var pairs [][]int
	for _, one := range dugIn(wholes) {
		for _, other := range dugIn(wholes) {
			a, b := t.Spots[one].At, t.Spots[other].At
			if one < other && (a-b >= t.Far || b-a >= t.Far) {
				pairs = append(pairs, list(wholes[one]+wholes[other], one, other))
			}
		}
	}
	slices.SortFunc(pairs, slices.Compare[[]int])
	return pairs
}

// allTests returns all tests of a town, in order.
func allTests(t api.PlaceTown) []api.QuarrelTest {
	var all []api.QuarrelTest
	for n := range t.Quarrel.Wells * t.Quarrel.Wells {
		all = append(all, tests(n/t.Quarrel.Wells, n%t.Quarrel.Wells)...)
	}
	return all
}

// shownIn returns what a test shows in a world.
func shownIn(t api.PlaceTown, world int, test api.QuarrelTest) int {
	return t.Quarrel.Worlds[world].Falls[test.From][test.To]
}

// decideIn returns what Decide should: all sets of tests are gone through, and
// it is kept of each set, and of each test, which pairs of worlds it tells apart.
func decideIn(t api.PlaceTown, spot int) (best []api.QuarrelTest, is bool) {
	all, left, pairs := allTests(t), leftIn(t), 0
	told := make([]int, len(all))
	for n, a := range left {
		for _, b := range left[:n] {
			if slices.Equal(forbidIn(t, a, spot), forbidIn(t, b, spot)) {
				continue
			}
			for k, test := range all {
				if shownIn(t, a, test) != shownIn(t, b, test) {
					told[k] |= 1 << pairs
				}
			}
			pairs++
		}
	}
	for set := range 1 << len(all) {
		if is && bits.OnesCount(uint(set)) > len(best) {
			continue
		}
		tells, some := 0, []api.QuarrelTest(nil)
		for n, test := range all {
			if set>>n&1 == 1 {
				tells |= told[n]
				some = append(some, test)
			}
		}
		if tells == 1<<pairs-1 && (!is || comesFirst(some, best)) {
			best, is = some, true
		}
	}
	return best, is
}

// comesFirst reports whether a list of tests has fewer tests than another one,
// or as many and is less.
func comesFirst(a, b []api.QuarrelTest) bool {
	if len(a) != len(b) {
		return len(a) < len(b)
	}
	return slices.CompareFunc(a, b, func(x, y api.QuarrelTest) int {
		return 10*(x.From-y.From) + x.To - y.To
	}) < 0
}

// someShaft returns a random shaft of few feet. Some of them cannot be dug.
func someShaft(r *rand.Rand) api.Shaft {
	s := api.Shaft{Deep: r.Intn(2), Haul: r.Intn(2), Rest: r.Intn(10)}
	for range 1 + r.Intn(2) {
		k := rock(r.Intn(10), r.Intn(6), 1+r.Intn(3), r.Intn(4))
		if r.Intn(8) == 0 {
			k.Seat = api.ShaftNone
		}
		s.Rocks = append(s.Rocks, k)
	}
	for range r.Intn(6) {
		s.Feet = append(s.Feet, r.Intn(len(s.Rocks)))
	}
	return s
}

// someLists returns so many lists of so many random numbers up to another one.
func someLists(r *rand.Rand, many, numbers, most int) [][]int {
	lists := make([][]int, many)
	for n := range lists {
		for range numbers {
			lists[n] = append(lists[n], r.Intn(most+1))
		}
	}
	return lists
}

// someFact returns a random fact of a town, often one that is so in a world.
func someFact(r *rand.Rand, t api.PlaceTown) api.QuarrelFact {
	wells := t.Quarrel.Wells
	f := api.QuarrelFact{From: r.Intn(wells), Many: 1 + r.Intn(9), To: r.Intn(wells)}
	sunk := r.Intn(9)
	if n := len(t.Quarrel.Worlds); n > 0 {
		sunk = f.Many * t.Quarrel.Worlds[r.Intn(n)].Falls[f.From][f.To]
	}
	f.Low, f.High = max(0, sunk-r.Intn(3*f.Many)), sunk+r.Intn(2*f.Many)
	return f
}

// someSpot returns a random spot of a town, often one that is much the same in
// all worlds.
func someSpot(r *rand.Rand, t api.PlaceTown, street int) api.PlaceSpot {
	worlds, most := len(t.Quarrel.Worlds), 1+r.Intn(4)
	s := spot(r.Intn(street), someShaft(r), someLists(r, worlds, t.Quarrel.Wells, most)...)
	for n := 1; n < worlds; n++ {
		if r.Intn(2) == 0 {
			copy(s.Falls[n], s.Falls[n-1])
		}
	}
	return s
}

// someTown returns a random town with at most so many wells, worlds and facts.
func someTown(r *rand.Rand, wells, worlds, facts int) api.PlaceTown {
	wells = max(r.Intn(wells+1), r.Intn(wells+1))
	street := 10 + r.Intn(91)
	t := api.PlaceTown{
		Quarrel: api.QuarrelTown{Wells: wells},
		Olds:    someLists(r, 1, wells, street-1)[0],
		Pence:   someLists(r, 1, wells, 8)[0],
		Far:     r.Intn(1 + street/4), Harm: r.Intn(14), Many: r.Intn(6),
	}
	for range max(r.Intn(worlds+1), r.Intn(worlds+1)) {
		w := world(someLists(r, wells, wells, 2)...)
		if n := len(t.Quarrel.Worlds); n > 0 && wells > 0 && r.Intn(3) > 0 {
			// So that not each test tells them apart.
			w.Falls = cloneLists(t.Quarrel.Worlds[r.Intn(n)].Falls)
			w.Falls[r.Intn(wells)][r.Intn(wells)] = r.Intn(3)
		}
		t.Quarrel.Worlds = append(t.Quarrel.Worlds, w)
	}
	for range r.Intn(facts + 1) {
		if wells > 0 {
			t.Quarrel.Facts = append(t.Quarrel.Facts, someFact(r, t))
		}
	}
	for range max(r.Intn(api.MaxPlaceSpots+1), r.Intn(api.MaxPlaceSpots+1)) {
		t.Spots = append(t.Spots, someSpot(r, t, street))
	}
	return t
}

// eachTown calls a function with many towns of at most so many facts.
func eachTown(seed int64, many, facts int, call func(r *rand.Rand, t api.PlaceTown)) {
	r := rand.New(rand.NewSource(seed))
	for _, t := range plain() {
		t.Quarrel.Facts = t.Quarrel.Facts[:min(facts, len(t.Quarrel.Facts))]
		call(r, t)
	}
	for range many {
		call(r, someTown(r, 2+r.Intn(3), api.MaxQuarrelWorlds, facts))
	}
}

// eachLeft calls a function with many towns in which some world is left.
func eachLeft(seed int64, many, facts int, call func(r *rand.Rand, t api.PlaceTown)) {
	eachTown(seed, many, facts, func(r *rand.Rand, t api.PlaceTown) {
		if len(leftIn(t)) > 0 {
			call(r, t)
		}
	})
}

// forbidsOf, whoOf and freeOf return results of towns in which some world is
// left. bestOf, wholeOf, cheapestOf and loosenOf return undug, too, where there
// is no result, and priceOf that of what cannot be dug.
func forbidsOf(t api.PlaceTown, spot, well int) int {
	forbids, _ := places.Forbids(t, spot, well)
	return forbids
}

func whoOf(t api.PlaceTown, spot int) []int {
	who, _ := places.Who(t, spot)
	return who
}

func freeOf(t api.PlaceTown) []int {
	free, _ := places.Free(t)
	return free
}

func orUndug(n int, e api.Errno) int {
	if e != api.OK {
		return undug
	}
	return n
}

func priceOf(t api.PlaceTown, spot int) int { return orUndug(places.Price(t, spot)) }

func wholeOf(t api.PlaceTown, spot int) int { return orUndug(places.Whole(t, spot)) }

func bestOf(t api.PlaceTown) int { return orUndug(places.Best(t)) }

func cheapestOf(t api.PlaceTown) int { return orUndug(places.Cheapest(t)) }

func loosenOf(t api.PlaceTown) int { return orUndug(places.Loosen(t)) }

// pairOf returns the whole prices of Pair together, undug if there is none.
func pairOf(t api.PlaceTown) int {
	one, other, e := places.Pair(t)
	if e != api.OK {
		return undug
	}
	return wholeOf(t, one) + wholeOf(t, other)
}

// same reports whether two towns are the same.
func same(a, b api.PlaceTown) bool {
	areSpots := func(x, y api.PlaceSpot) bool {
		s, o := x.Shaft, y.Shaft
		numbers := x.At == y.At && s.Deep == o.Deep && s.Haul == o.Haul && s.Rest == o.Rest
		return numbers && slices.Equal(s.Rocks, o.Rocks) && slices.Equal(s.Feet, o.Feet) && areLists(x.Falls, y.Falls)
	}
	areWorlds := func(x, y api.QuarrelWorld) bool { return areLists(x.Falls, y.Falls) }
	q, o := a.Quarrel, b.Quarrel
	quarrels := q.Wells == o.Wells && slices.EqualFunc(q.Worlds, o.Worlds, areWorlds) && slices.Equal(q.Facts, o.Facts)
	law := a.Far == b.Far && a.Harm == b.Harm && a.Many == b.Many
	return quarrels && law && slices.Equal(a.Olds, b.Olds) && slices.Equal(a.Pence, b.Pence) && slices.EqualFunc(a.Spots, b.Spots, areSpots)
}

// areLists reports whether some lists are the same as others.
func areLists(a, b [][]int) bool {
	return slices.EqualFunc(a, b, slices.Equal[[]int])
}
