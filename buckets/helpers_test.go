package buckets_test

import (
	"math/rand"
	"slices"

	"steening/api"
	"steening/buckets"
)

// ways returns ways of houses and wells that are given in turn.
func ways(numbers ...int) []api.BucketWay {
	var all []api.BucketWay
	for n := 0; n < len(numbers); n += 2 {
		all = append(all, api.BucketWay{House: numbers[n], Well: numbers[n+1]})
	}
	return all
}

// townB, townC and townD are the towns B, C and D of the chapter's examples.
func townB() api.BucketTown {
	return api.BucketTown{Houses: []int{5, 4, 3}, Wells: []int{4, 3}, Ways: ways(0, 0, 1, 0, 1, 1, 2, 1)}
}

func townC() api.BucketTown {
	return api.BucketTown{Houses: []int{2, 3}, Wells: []int{5, 0}, Ways: ways(0, 0, 1, 1)}
}

func townD() api.BucketTown {
	return api.BucketTown{Houses: []int{1}, Wells: []int{1, 1}, Ways: ways(0, 0, 0, 1)}
}

// widest returns the town with the greatest numbers of all.
func widest() api.BucketTown {
	return api.BucketTown{
		Houses: []int{9, 9, 9, 9, 9, 9},
		Wells:  []int{20, 20, 20, 20, 20},
		Ways:   ways(0, 0, 0, 1, 0, 2, 1, 0, 1, 1, 2, 0, 2, 1, 3, 1, 4, 1, 4, 2, 5, 3, 5, 4),
	}
}

// plain returns some towns at the ends of what can be.
func plain() []api.BucketTown {
	return []api.BucketTown{
		{},
		{Houses: []int{}, Wells: []int{}, Ways: []api.BucketWay{}},
		{Houses: []int{3, 0, 9}},
		{Wells: []int{0, 20}},
		{Houses: []int{0, 0}, Wells: []int{0, 7}, Ways: ways(0, 0, 0, 1, 1, 0)},
		{Houses: []int{2, 3}, Wells: []int{4, 1}},
		townB(), townC(), townD(),
	}
}

// clone returns a town that shares no memory with another one.
func clone(t api.BucketTown) api.BucketTown {
	return api.BucketTown{Houses: slices.Clone(t.Houses), Wells: slices.Clone(t.Wells), Ways: slices.Clone(t.Ways)}
}

// same reports whether two towns are the same.
func same(a, b api.BucketTown) bool {
	return slices.Equal(a.Houses, b.Houses) && slices.Equal(a.Wells, b.Wells) && slices.Equal(a.Ways, b.Ways)
}

// total returns the sum of a list.
func total(list []int) int {
	all := 0
	for _, n := range list {
		all += n
	}
	return all
}

// houseDraws returns what each house draws in a division.
func houseDraws(t api.BucketTown, division []int) []int {
	draws := make([]int, len(t.Houses))
	for n, way := range t.Ways {
		draws[way.House] += division[n]
	}
	return draws
}

// given returns what each well gives in a division.
func given(t api.BucketTown, division []int) []int {
	gives := make([]int, len(t.Wells))
	for n, way := range t.Ways {
		gives[way.Well] += division[n]
	}
	return gives
}

// lacksIn returns the lacks, the greatest one first, if the houses draw so much.
func lacksIn(t api.BucketTown, draws []int) []int {
	lacks := make([]int, 0, len(draws))
	for house, wants := range t.Houses {
		lacks = append(lacks, wants-draws[house])
	}
	slices.SortFunc(lacks, func(a, b int) int { return b - a })
	return lacks
}

// divisions returns all divisions of a town, found by trying.
func divisions(t api.BucketTown) [][]int {
	var all [][]int
	var try func(list []int)
	try = func(list []int) {
		if len(list) == len(t.Ways) {
			all = append(all, slices.Clone(list))
			return
		}
		for n := 0; ; n++ {
			next := append(slices.Clone(list), n)
			part := api.BucketTown{Houses: t.Houses, Wells: t.Wells, Ways: t.Ways[:len(next)]}
			way := t.Ways[len(list)]
			if houseDraws(part, next)[way.House] > t.Houses[way.House] || given(part, next)[way.Well] > t.Wells[way.Well] {
				return
			}
			try(next)
		}
	}
	try(nil)
	return all
}

// fairestOf returns the fairest ones of some divisions, and their lacks.
func fairestOf(t api.BucketTown, all [][]int) (fairest [][]int, lacks []int) {
	for _, division := range all {
		its := lacksIn(t, houseDraws(t, division))
		order := slices.Compare(its, lacks)
		if len(fairest) == 0 || order < 0 {
			fairest, lacks = nil, its
			order = 0
		}
		if order == 0 {
			fairest = append(fairest, division)
		}
	}
	return fairest, lacks
}

// reached returns how much all wells have together from which some houses of a
// set may draw.
func reached(t api.BucketTown, set int) int {
	wells := make(map[int]bool)
	for _, way := range t.Ways {
		if set>>way.House&1 == 1 {
			wells[way.Well] = true
		}
	}
	sum := 0
	for well := range wells {
		sum += t.Wells[well]
	}
	return sum
}

// sumOf returns the sum of those numbers whose places are in a set.
func sumOf(list []int, set int) int {
	sum := 0
	for n, number := range list {
		if set>>n&1 == 1 {
			sum += number
		}
	}
	return sum
}

// mostOf returns the greatest number of buckets that are drawn: the least that
// is wanted by some houses and reached by all others.
func mostOf(t api.BucketTown) int {
	most := total(t.Houses)
	for set := range 1 << len(t.Houses) {
		most = min(most, total(t.Houses)-sumOf(t.Houses, set)+reached(t, set))
	}
	return most
}

// fairestDraws returns all lists of what each house draws in the fairest
// divisions, and the lacks. Houses can draw so much just if no set of them
// draws more than it reaches.
func fairestDraws(t api.BucketTown) (fairest [][]int, lacks []int) {
	var reach []int
	for set := range 1 << len(t.Houses) {
		reach = append(reach, reached(t, set))
	}
	can := func(draws []int) bool {
		for set := range 1 << len(draws) {
			if sumOf(draws, set) > reach[set] {
				return false
			}
		}
		return true
	}
	var try func(draws []int)
	try = func(draws []int) {
		if !can(draws) {
			return
		}
		if len(draws) < len(t.Houses) {
			for n := range t.Houses[len(draws)] + 1 {
				try(append(slices.Clone(draws), n))
			}
			return
		}
		its := lacksIn(t, draws)
		order := slices.Compare(its, lacks)
		if len(fairest) == 0 || order < 0 {
			fairest, lacks = nil, its
			order = 0
		}
		if order == 0 {
			fairest = append(fairest, slices.Clone(draws))
		}
	}
	try(nil)
	return fairest, lacks
}

// richer returns a town with one bucket more in a well.
func richer(t api.BucketTown, well int) api.BucketTown {
	t = clone(t)
	t.Wells[well]++
	return t
}

// wider returns a town with one way more, at its place.
func wider(t api.BucketTown, house, well int) api.BucketTown {
	t = clone(t)
	t.Ways = inOrder(append(t.Ways, api.BucketWay{House: house, Well: well}))
	return t
}

// inOrder returns ways in their order.
func inOrder(all []api.BucketWay) []api.BucketWay {
	slices.SortFunc(all, func(a, b api.BucketWay) int { return 10*(a.House-b.House) + a.Well - b.Well })
	return all
}

// someWays returns random ways of a town, at most so many.
func someWays(r *rand.Rand, houses, wells, most int) []api.BucketWay {
	var all []api.BucketWay
	for house := range houses {
		for well := range wells {
			all = append(all, api.BucketWay{House: house, Well: well})
		}
	}
	r.Shuffle(len(all), func(a, b int) { all[a], all[b] = all[b], all[a] })
	return inOrder(all[:r.Intn(min(most, len(all))+1)])
}

// someTown returns a random town of at most so many houses, wells and ways.
func someTown(r *rand.Rand, houses, wells, most, want, has int) api.BucketTown {
	t := api.BucketTown{}
	for range r.Intn(houses + 1) {
		t.Houses = append(t.Houses, r.Intn(want+1))
	}
	for range r.Intn(wells + 1) {
		t.Wells = append(t.Wells, r.Intn(has+1))
	}
	t.Ways = someWays(r, len(t.Houses), len(t.Wells), most)
	return t
}

// smallTown returns a random town with few divisions.
func smallTown(r *rand.Rand) api.BucketTown {
	if r.Intn(3) == 0 {
		return someTown(r, 6, 5, 7, 2, 3)
	}
	return someTown(r, 4, 3, 5, 4, 6)
}

// bigTown returns a random town of any size; its wells have about as much as
// its houses want.
func bigTown(r *rand.Rand) api.BucketTown {
	return someTown(r, api.MaxBucketHouses, api.MaxBucketWells, api.MaxBucketWays, 1+r.Intn(api.MaxBucketWant), 1+r.Intn(api.MaxBucketHas))
}

// eachSmall calls a function with many towns with few divisions, and all of
// them.
func eachSmall(seed int64, call func(t api.BucketTown, all [][]int)) {
	r := rand.New(rand.NewSource(seed))
	for _, t := range plain() {
		call(t, divisions(t))
	}
	for range 1500 {
		t := smallTown(r)
		call(t, divisions(t))
	}
}

// eachBig calls a function with many towns of any size.
func eachBig(seed int64, call func(r *rand.Rand, t api.BucketTown)) {
	r := rand.New(rand.NewSource(seed))
	for _, t := range append(plain(), widest()) {
		call(r, t)
	}
	for range 1500 {
		call(r, bigTown(r))
	}
}

// eachWide calls a function with towns of up to six houses, which want little,
// and all that each house draws in the fairest divisions, and the lacks.
func eachWide(seed int64, call func(t api.BucketTown, fairest [][]int, lacks []int)) {
	r := rand.New(rand.NewSource(seed))
	for range 400 {
		t := someTown(r, api.MaxBucketHouses, api.MaxBucketWells, api.MaxBucketWays, 3, 6)
		fairest, lacks := fairestDraws(t)
		call(t, fairest, lacks)
	}
	for range 200 {
		t := someTown(r, 3, api.MaxBucketWells, api.MaxBucketWays, api.MaxBucketWant, 12)
		fairest, lacks := fairestDraws(t)
		call(t, fairest, lacks)
	}
}

// isFairer reports whether lacks are those of fairer divisions than others.
func isFairer(a, b []int) bool { return slices.Compare(a, b) < 0 }

// lacksOf and mostDrawn return results of towns that are valid.
func lacksOf(t api.BucketTown) []int {
	lacks, _ := buckets.Lacks(t)
	return lacks
}

func mostDrawn(t api.BucketTown) int {
	most, _ := buckets.Most(t)
	return most
}
