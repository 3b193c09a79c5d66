package places_test

import (
	"math"
	"math/rand"
	"slices"
	"testing"

	"steening/api"
	"steening/places"
)

// invalid returns towns that are not valid, each for one reason.
func invalid() map[string]api.PlaceTown {
	towns := map[string]api.PlaceTown{
		"6 spots":              desert(make([]api.PlaceSpot, 6)...),
		"an old well, nowhere": with(desert(), func(t *api.PlaceTown) { t.Olds = list(3) }),
		"pence, nowhere":       with(desert(), func(t *api.PlaceTown) { t.Pence = list(3) }),
		"a fall, nowhere":      with(desert(spot(0, feet(1))), func(t *api.PlaceTown) { t.Spots[0].Falls[0] = list(0) }),
		"falls, no worlds":     {Spots: []api.PlaceSpot{spot(3, feet(2), nil)}},
	}
	for name, n := range map[string]int{"-1": -1, "least": math.MinInt, "most": math.MaxInt} {
		for what, change := range numbers() {
			towns[what+" "+name] = with(townP(), func(t *api.PlaceTown) { *change(t) = n })
		}
	}
	for name, change := range map[string]func(t *api.PlaceTown){
		"a well more":       func(t *api.PlaceTown) { t.Quarrel.Wells = 3 },
		"a well less":       func(t *api.PlaceTown) { t.Quarrel.Wells = 1 },
		"wells 5":           func(t *api.PlaceTown) { t.Quarrel.Wells = 5 },
		"a world less":      func(t *api.PlaceTown) { t.Quarrel.Worlds = t.Quarrel.Worlds[:1] },
		"a world more":      func(t *api.PlaceTown) { t.Quarrel.Worlds = append(t.Quarrel.Worlds, t.Quarrel.Worlds[0]) },
		"no worlds":         func(t *api.PlaceTown) { t.Quarrel.Worlds = nil },
		"fall 10 by a well": func(t *api.PlaceTown) { t.Quarrel.Worlds[0].Falls[1][1] = 10 },
		"a fact of nothing": func(t *api.PlaceTown) { t.Quarrel.Facts = make([]api.QuarrelFact, 1) },
		"7 facts":           func(t *api.PlaceTown) { t.Quarrel.Facts = slices.Repeat([]api.QuarrelFact{fact(0, 0, 1)}, 7) },
		"an old one less":   func(t *api.PlaceTown) { t.Olds = t.Olds[:1] },
		"an old one more":   func(t *api.PlaceTown) { t.Olds = append(t.Olds, 0) },
		"no old ones":       func(t *api.PlaceTown) { t.Olds = nil },
		"old 100":           func(t *api.PlaceTown) { t.Olds[0] = 100 },
		"pence less":        func(t *api.PlaceTown) { t.Pence = t.Pence[:1] },
		"pence more":        func(t *api.PlaceTown) { t.Pence = append(t.Pence, 0) },
		"no pence":          func(t *api.PlaceTown) { t.Pence = nil },
		"pence 100":         func(t *api.PlaceTown) { t.Pence[1] = 100 },
		"6 spots, all good": func(t *api.PlaceTown) { t.Spots = slices.Repeat(t.Spots, 2) },
		"many spots":        func(t *api.PlaceTown) { t.Spots = slices.Repeat(t.Spots, 100) },
		"at 100":            func(t *api.PlaceTown) { t.Spots[2].At = 100 },
		"falls less":        func(t *api.PlaceTown) { t.Spots[0].Falls = t.Spots[0].Falls[:1] },
		"falls more":        func(t *api.PlaceTown) { t.Spots[1].Falls = append(t.Spots[1].Falls, list(0, 0)) },
		"no falls":          func(t *api.PlaceTown) { t.Spots[2].Falls = nil },
		"a fall less":       func(t *api.PlaceTown) { t.Spots[0].Falls[1] = list(0) },
		"a fall more":       func(t *api.PlaceTown) { t.Spots[1].Falls[0] = list(0, 0, 0) },
		"no fall":           func(t *api.PlaceTown) { t.Spots[2].Falls[1] = nil },
		"fall 10":           func(t *api.PlaceTown) { t.Spots[2].Falls[1][1] = 10 },
		"a rock that is no": func(t *api.PlaceTown) { t.Spots[1].Shaft.Feet[3] = 1 },
		"a stand of 13":     func(t *api.PlaceTown) { t.Spots[1].Shaft.Rocks[0].Stand = 13 },
		"13 feet":           func(t *api.PlaceTown) { t.Spots[0].Shaft = feet(13) },
		"deep 10":           func(t *api.PlaceTown) { t.Spots[2].Shaft.Deep = 10 },
		"far 100":           func(t *api.PlaceTown) { t.Far = 100 },
		"harm 100":          func(t *api.PlaceTown) { t.Harm = 100 },
		"many 10":           func(t *api.PlaceTown) { t.Many = 10 },
		// Worlds that are left or not are the same to it.
		"a fall, not left": func(t *api.PlaceTown) {
			t.Quarrel.Facts = []api.QuarrelFact{fact(0, 1, 2)}
			t.Spots[0].Falls[0][0] = 10
		},
	} {
		towns[name] = with(townP(), change)
	}
	return towns
}

// numbers returns the numbers of a town, none of which can be below 0.
func numbers() map[string]func(t *api.PlaceTown) *int {
	return map[string]func(t *api.PlaceTown) *int{
		"wells":  func(t *api.PlaceTown) *int { return &t.Quarrel.Wells },
		"lowers": func(t *api.PlaceTown) *int { return &t.Quarrel.Worlds[1].Falls[0][1] },
		"old":    func(t *api.PlaceTown) *int { return &t.Olds[1] },
		"pence":  func(t *api.PlaceTown) *int { return &t.Pence[0] },
		"at":     func(t *api.PlaceTown) *int { return &t.Spots[0].At },
		"rest":   func(t *api.PlaceTown) *int { return &t.Spots[1].Shaft.Rest },
		"fall":   func(t *api.PlaceTown) *int { return &t.Spots[2].Falls[0][1] },
		"far":    func(t *api.PlaceTown) *int { return &t.Far },
		"harm":   func(t *api.PlaceTown) *int { return &t.Harm },
		"many":   func(t *api.PlaceTown) *int { return &t.Many },
	}
}

// errors returns what each function but Check returns as an error, and reports
// whether each result beside an error is its zero value.
func errors(t api.PlaceTown, spot, well int) (list []api.Errno, zero bool) {
	zero = true
	add := func(e api.Errno, isZero bool) {
		list = append(list, e)
		zero = zero && (e == api.OK || isZero)
	}
	near, e := places.Near(t, spot)
	add(e, near == 0)
	price, e := places.Price(t, spot)
	add(e, price == 0)
	forbids, e := places.Forbids(t, spot, well)
	add(e, forbids == 0)
	who, e := places.Who(t, spot)
	add(e, len(who) == 0)
	decide, e := places.Decide(t, spot)
	add(e, len(decide) == 0)
	free, e := places.Free(t)
	add(e, len(free) == 0)
	best, e := places.Best(t)
	add(e, best == 0)
	loosen, e := places.Loosen(t)
	add(e, loosen == 0)
	whole, e := places.Whole(t, spot)
	add(e, whole == 0)
	cheapest, e := places.Cheapest(t)
	add(e, cheapest == 0)
	one, other, e := places.Pair(t)
	add(e, one == 0 && other == 0)
	return list, zero
}

// areAll reports whether all errors are the same one.
func areAll(list []api.Errno, e api.Errno) bool {
	return !slices.ContainsFunc(list, func(other api.Errno) bool { return other != e })
}

func TestP9_1Check(t *testing.T) {
	for n, town := range plain() {
		if e := places.Check(town); e != api.OK {
			t.Errorf("%d: Check = %d", n, e)
		}
	}
	for what, change := range numbers() {
		if town := with(townP(), func(t *api.PlaceTown) { *change(t) = 0 }); what != "wells" && places.Check(town) != api.OK {
			t.Errorf("%s 0: Check = %d", what, places.Check(town))
		}
	}
	for name, town := range invalid() {
		if e := places.Check(town); e != api.ErrPlace {
			t.Errorf("%s: Check = %d", name, e)
		}
		// ErrPlace is named first, whatever else is wrong.
		for _, n := range list(0, 1, -1, 3, math.MinInt, math.MaxInt) {
			if list, zero := errors(town, n, n); !areAll(list, api.ErrPlace) || !zero {
				t.Errorf("%s, %d: errors %v, zero %v", name, n, list, zero)
			}
		}
	}
}

func TestErrors(t *testing.T) {
	noSpots := with(townP(), func(t *api.PlaceTown) { t.Spots = nil })
	oneSpot := with(townP(), func(t *api.PlaceTown) { t.Spots = t.Spots[:1] })
	allLoose := with(townP(), func(t *api.PlaceTown) {
		for n := range t.Spots {
			t.Spots[n].Shaft = loose()
		}
	})
	for name, x := range map[string]struct {
		town       api.PlaceTown
		spot, well int
		want       []api.Errno
	}{
		"P":          {townP(), 2, 1, []api.Errno{0, 0, 0, 0, 0, 0, 0, 0, 0, 0, 0}},
		"spot 3":     {townP(), 3, 1, []api.Errno{1, 1, 1, 1, 1, 0, 0, 0, 1, 0, 0}},
		"spot -1":    {townP(), -1, 1, []api.Errno{1, 1, 1, 1, 1, 0, 0, 0, 1, 0, 0}},
		"spot most":  {townP(), math.MaxInt, 1, []api.Errno{1, 1, 1, 1, 1, 0, 0, 0, 1, 0, 0}},
		"spot least": {townP(), math.MinInt, 1, []api.Errno{1, 1, 1, 1, 1, 0, 0, 0, 1, 0, 0}},
		"well 2":     {townP(), 0, 2, []api.Errno{0, 0, 1, 0, 0, 0, 0, 0, 0, 0, 0}},
		"well -1":    {townP(), 0, -1, []api.Errno{0, 0, 1, 0, 0, 0, 0, 0, 0, 0, 0}},
		"well most":  {townP(), 0, math.MaxInt, []api.Errno{0, 0, 1, 0, 0, 0, 0, 0, 0, 0, 0}},
		"well least": {townP(), 0, math.MinInt, []api.Errno{0, 0, 1, 0, 0, 0, 0, 0, 0, 0, 0}},
		"no spots":   {noSpots, 0, 0, []api.Errno{1, 1, 1, 1, 1, 0, 3, 3, 1, 3, 3}},
		"one spot":   {oneSpot, 0, 0, []api.Errno{0, 0, 0, 0, 0, 0, 3, 3, 0, 0, 3}},
		"all loose":  {allLoose, 1, 1, []api.Errno{0, 3, 0, 0, 0, 0, 3, 3, 3, 3, 3}},
		// Near and Price are there if no world is left, too.
		"none left":       {noWorlds(), 1, 1, []api.Errno{0, 0, 3, 3, 3, 3, 3, 3, 3, 3, 3}},
		"none left, args": {noWorlds(), 3, 2, []api.Errno{1, 1, 1, 1, 1, 3, 3, 3, 1, 3, 3}},
		"none left, well": {noWorlds(), 0, 2, []api.Errno{0, 0, 1, 3, 3, 3, 3, 3, 3, 3, 3}},
		"nothing":         {api.PlaceTown{}, 0, 0, []api.Errno{1, 1, 1, 1, 1, 3, 3, 3, 1, 3, 3}},
		"no worlds":       {plain()[3], 0, 0, []api.Errno{3, 0, 1, 3, 3, 3, 3, 3, 3, 3, 3}},
		"a desert":        {desert(spot(7, feet(1))), 0, 0, []api.Errno{3, 0, 1, 0, 0, 0, 0, 0, 0, 0, 3}},
		"a loose desert":  {desert(spot(7, loose())), 0, 0, []api.Errno{3, 3, 1, 0, 0, 0, 3, 3, 3, 3, 3}},
	} {
		if list, zero := errors(x.town, x.spot, x.well); !slices.Equal(list, x.want) || !zero {
			t.Errorf("%s: errors %v, zero %v", name, list, zero)
		}
	}
}

func TestExamples(t *testing.T) {
	p := townP()
	for n, want := range []struct {
		near, price, whole int
		who                []int
	}{{5, 17, 24, list(0)}, {20, 24, 28, list(1)}, {30, 34, 34, nil}} {
		near, e := places.Near(p, n)
		price, f := places.Price(p, n)
		whole, g := places.Whole(p, n)
		who, h := places.Who(p, n)
		if near != want.near || price != want.price || whole != want.whole || !slices.Equal(who, want.who) || e|f|g|h != api.OK {
			t.Errorf("%d: Near = %d, %d; Price = %d, %d; Whole = %d, %d; Who = %v, %d", n, near, e, price, f, whole, g, who, h)
		}
	}
	for _, x := range [][3]int{{0, 0, api.Surely}, {1, 0, api.Never}, {1, 1, api.Perhaps}, {2, 1, api.Never}} {
		if forbids, e := places.Forbids(p, x[0], x[1]); forbids != x[2] || e != api.OK {
			t.Errorf("Forbids of %d, %d = %d, %d", x[0], x[1], forbids, e)
		}
	}
	for n, want := range [][]api.QuarrelTest{nil, tests(0, 1), nil} {
		if decide, e := places.Decide(p, n); !slices.Equal(decide, want) || e != api.OK {
			t.Errorf("Decide of %d = %v, %d", n, decide, e)
		}
	}
	free, e := places.Free(p)
	best, f := places.Best(p)
	loosen, g := places.Loosen(p)
	cheapest, h := places.Cheapest(p)
	one, other, i := places.Pair(p)
	if !slices.Equal(free, list(2)) || best != 2 || loosen != 6 || cheapest != 0 || one != 0 || other != 1 || e|f|g|h|i != api.OK {
		t.Errorf("Free = %v, %d; Best = %d, %d; Loosen = %d, %d; Cheapest = %d, %d; Pair = %d %d, %d", free, e, best, f, loosen, g, cheapest, h, one, other, i)
	}
}

func TestP9_2Near(t *testing.T) {
	none, several := 0, 0
	eachTown(2, 1000, 2, func(_ *rand.Rand, town api.PlaceTown) {
		for n, s := range town.Spots {
			var all []int
			for _, at := range town.Olds {
				all = append(all, int(math.Abs(float64(at-s.At))))
			}
			near, e := places.Near(town, n)
			if len(all) == 0 {
				none++
				if near != 0 || e != api.ErrNone {
					t.Errorf("%v: Near of %d = %d, %d", town, n, near, e)
				}
				continue
			}
			if len(all) > 1 {
				several++
			}
			if near != slices.Min(all) || e != api.OK {
				t.Errorf("%v: Near of %d = %d, %d, not %d", town, n, near, e, slices.Min(all))
			}
		}
	})
	if none < 100 || several < 500 {
		t.Errorf("not all was tried: %d, %d", none, several)
	}
	for _, x := range []struct{ at, old, other, want int }{{0, 99, 99, 99}, {99, 0, 0, 99}, {50, 50, 0, 0}, {50, 0, 50, 0}, {30, 20, 41, 10}, {30, 19, 40, 10}, {30, 31, 28, 1}, {30, 32, 29, 1}} {
		town := with(townP(), func(t *api.PlaceTown) { t.Olds, t.Spots[1].At = list(x.old, x.other), x.at })
		if near, e := places.Near(town, 1); near != x.want || e != api.OK {
			t.Errorf("%v: Near = %d, %d", x, near, e)
		}
	}
}

func TestP9_3Price(t *testing.T) {
	some, none := 0, 0
	eachTown(3, 600, 2, func(_ *rand.Rand, town api.PlaceTown) {
		for n := range town.Spots {
			want, e := priceIn(town, n), api.OK
			if want == undug {
				none++
				want, e = 0, api.ErrNone
			} else {
				some++
			}
			if price, f := places.Price(town, n); price != want || e != f {
				t.Errorf("%v: Price of %d = %d, %d, not %d", town, n, price, f, want)
			}
		}
	})
	if some < 500 || none < 100 {
		t.Errorf("not all was tried: %d, %d", some, none)
	}
	for _, x := range []struct {
		s    api.Shaft
		want int
		e    api.Errno
	}{
		{api.Shaft{}, 0, api.OK},
		{feet(1), 7, api.OK},
		{feet(12), 68, api.OK},
		{wide(), 3672, api.OK},
		{loose(), 0, api.ErrNone},
		// The last ring costs 1, and the other one 4.
		{api.Shaft{Rocks: []api.ShaftRock{rock(0, 0, 2, 4), rock(0, 0, 2, 1)}, Feet: list(0, 0, 1)}, 5, api.OK},
		{api.Shaft{Rocks: []api.ShaftRock{rock(0, 0, 2, 4), rock(0, 0, 2, api.ShaftNone)}, Feet: list(0, 0, 1)}, 0, api.ErrNone},
	} {
		if price, e := places.Price(desert(spot(0, x.s)), 0); price != x.want || e != x.e {
			t.Errorf("%v: Price = %d, %d", x.s, price, e)
		}
	}
}

// byLaw returns the town P with another law.
func byLaw(far, harm, many int) api.PlaceTown {
	return with(townP(), func(t *api.PlaceTown) { t.Far, t.Harm, t.Many = far, harm, many })
}

func TestP9_4ForbidsP9_5Who(t *testing.T) {
	counts := make(map[int]int)
	eachLeft(4, 1500, 2, func(_ *rand.Rand, town api.PlaceTown) {
		for n := range town.Spots {
			some, each := whoIn(town, n)
			for well := range town.Olds {
				want := api.Never
				switch {
				case slices.Contains(each, well):
					want = api.Surely
				case slices.Contains(some, well):
					want = api.Perhaps
				}
				counts[want]++
				if forbids, e := places.Forbids(town, n, well); forbids != want || e != api.OK {
					t.Errorf("%v: Forbids of %d, %d = %d, %d, not %d", town, n, well, forbids, e, want)
				}
			}
			if who, e := places.Who(town, n); !slices.Equal(who, some) || e != api.OK {
				t.Errorf("%v: Who of %d = %v, %d, not %v", town, n, who, e, some)
			}
			if len(some) > 1 {
				counts[0]++
			}
		}
	})
	for n, many := range counts {
		if many < 300 {
			t.Errorf("not all was tried: %d, %d", n, many)
		}
	}
}

func TestP9_4P9_5ByLawAndWorlds(t *testing.T) {
	only := func(world int) api.PlaceTown {
		return with(townP(), func(t *api.PlaceTown) { t.Quarrel.Facts = []api.QuarrelFact{fact(0, 1, 2*world)} })
	}
	for n, x := range []struct {
		town       api.PlaceTown
		spot, well int
		want       int
		who        []int
	}{
		// So near, and so much, is allowed just still.
		{byLaw(5, 0, 0), 0, 0, api.Never, nil},
		{byLaw(6, 0, 0), 0, 0, api.Surely, list(0)},
		{byLaw(35, 0, 0), 0, 1, api.Never, list(0)},
		{byLaw(36, 0, 0), 0, 1, api.Surely, list(0, 1)},
		{byLaw(0, 0, 0), 1, 1, api.Never, nil},
		{byLaw(0, 0, 1), 1, 1, api.Surely, list(0, 1)},
		{byLaw(0, 18, 9), 1, 1, api.Perhaps, list(1)},
		{byLaw(0, 17, 9), 1, 1, api.Surely, list(1)},
		{byLaw(0, 27, 9), 1, 1, api.Never, nil},
		{byLaw(0, 26, 9), 1, 1, api.Perhaps, list(1)},
		{byLaw(0, 0, 9), 0, 1, api.Perhaps, list(1)},
		{byLaw(0, 0, 9), 0, 0, api.Never, list(1)},
		// Who is too near forbids it in each world, whatever its falls are.
		{byLaw(36, 0, 9), 0, 1, api.Surely, list(0, 1)},
		// In what worlds that are left it is so does not hang on the others.
		{only(0), 1, 1, api.Never, nil},
		{only(1), 1, 1, api.Surely, list(1)},
		{widest(), 4, 3, api.Surely, list(0, 1, 2, 3)},
		{chain(), 0, 0, api.Perhaps, list(0, 1, 2)},
		{chain(), 0, 3, api.Never, list(0, 1, 2)},
	} {
		forbids, e := places.Forbids(x.town, x.spot, x.well)
		who, f := places.Who(x.town, x.spot)
		if forbids != x.want || !slices.Equal(who, x.who) || e|f != api.OK {
			t.Errorf("%d: Forbids = %d, %d; Who = %v, %d", n, forbids, e, who, f)
		}
	}
	if who, e := places.Who(desert(spot(0, feet(1))), 0); len(who) > 0 || e != api.OK {
		t.Errorf("Who = %v, %d", who, e)
	}
}

func TestP9_6Decide(t *testing.T) {
	counts := make(map[int]int)
	none := 0
	eachLeft(6, 1000, 1, func(_ *rand.Rand, town api.PlaceTown) {
		for n := range town.Spots {
			if n == 1 && town.Quarrel.Wells == 4 {
				// To go through all sets of 16 tests takes long.
				break
			}
			want, is := decideIn(town, n)
			decide, e := places.Decide(town, n)
			if !is {
				none++
				if len(decide) > 0 || e != api.ErrNone {
					t.Errorf("%v: Decide of %d = %v, %d", town, n, decide, e)
				}
				continue
			}
			counts[len(want)]++
			if !slices.Equal(decide, want) || e != api.OK {
				t.Errorf("%v: Decide of %d = %v, %d, not %v", town, n, decide, e, want)
			}
		}
	})
	if none < 50 || counts[0] < 100 || counts[1] < 100 || counts[2] < 30 {
		t.Errorf("not all was tried: %d, %v", none, counts)
	}
}

func TestP9_6DecideBetweenTwoWorlds(t *testing.T) {
	two := func(one, other []int, first, second api.QuarrelWorld) api.PlaceTown {
		return with(townP(), func(t *api.PlaceTown) {
			t.Quarrel.Worlds = []api.QuarrelWorld{first, second}
			t.Spots[1].Falls = [][]int{one, other}
		})
	}
	zero := world(list(0, 0), list(0, 0))
	for n, x := range []struct {
		town api.PlaceTown
		want []api.QuarrelTest
		e    api.Errno
	}{
		{chain(), tests(2, 3, 3, 0, 3, 1, 3, 2, 3, 3), api.OK},
		// Some well forbids the spot in both worlds, but not the same one.
		{two(list(3, 0), list(0, 3), zero, world(list(0, 0), list(1, 0))), tests(1, 0), api.OK},
		// The first one of several tests, also that of a well itself.
		{two(list(3, 0), list(0, 0), zero, world(list(0, 9), list(1, 1))), tests(0, 1), api.OK},
		{two(list(3, 0), list(0, 0), zero, world(list(1, 9), list(1, 1))), tests(0, 0), api.OK},
		{two(list(3, 0), list(0, 0), zero, world(list(0, 0), list(0, 1))), tests(1, 1), api.OK},
		// Worlds that are alike cannot be told apart.
		{two(list(3, 0), list(0, 0), zero, zero), nil, api.ErrNone},
		// They need not be, if nobody forbids the spot in just one of them.
		{two(list(3, 0), list(4, 2), zero, zero), nil, api.OK},
		{two(list(3, 0), list(4, 2), zero, world(list(1, 1), list(1, 1))), nil, api.OK},
		{desert(spot(0, feet(1))), nil, api.OK},
		{with(townP(), func(t *api.PlaceTown) { t.Spots[1].Shaft = loose() }), tests(0, 1), api.OK},
		{with(townP(), func(t *api.PlaceTown) { t.Quarrel.Facts = []api.QuarrelFact{fact(0, 1, 2)} }), nil, api.OK},
	} {
		spot := min(1, len(x.town.Spots)-1)
		if decide, e := places.Decide(x.town, spot); !slices.Equal(decide, x.want) || e != x.e {
			t.Errorf("%d: Decide = %v, %d", n, decide, e)
		}
	}
}

func TestP9_7FreeP9_8Best(t *testing.T) {
	none, several, same := 0, 0, 0
	eachLeft(7, 1500, 2, func(_ *rand.Rand, town api.PlaceTown) {
		prices, _ := pricesIn(town)
		want := freeIn(town, prices)
		free, e := places.Free(town)
		if !slices.Equal(free, want) || e != api.OK {
			t.Errorf("%v: Free = %v, %d, not %v", town, free, e, want)
		}
		best, e := places.Best(town)
		if len(want) == 0 {
			none++
			if best != 0 || e != api.ErrNone {
				t.Errorf("%v: Best = %d, %d", town, best, e)
			}
			return
		}
		first := leastIn(want, prices)
		if best != first || e != api.OK {
			t.Errorf("%v: Best = %d, %d, not %d", town, best, e, first)
		}
		if first != want[0] {
			several++
		}
		if slices.ContainsFunc(want, func(n int) bool { return n > first && prices[n] == prices[first] }) {
			same++
		}
	})
	if none < 100 || several < 100 || same < 20 {
		t.Errorf("not all was tried: %d, %d, %d", none, several, same)
	}
	for n, x := range []struct {
		town api.PlaceTown
		free []int
		best int
		e    api.Errno
	}{
		{desert(spot(0, feet(3)), spot(0, feet(2)), spot(0, loose()), spot(0, feet(2))), list(0, 1, 3), 1, api.OK},
		{desert(spot(0, api.Shaft{})), list(0), 0, api.OK},
		{desert(), nil, 0, api.ErrNone},
		{desert(spot(0, loose())), nil, 0, api.ErrNone},
		{widest(), nil, 0, api.ErrNone},
		{byLaw(0, 0, 0), list(0, 1, 2), 0, api.OK},
		{byLaw(6, 9, 3), list(1, 2), 1, api.OK},
		{byLaw(6, 8, 3), list(2), 2, api.OK},
	} {
		free, e := places.Free(x.town)
		best, f := places.Best(x.town)
		if !slices.Equal(free, x.free) || e != api.OK || best != x.best || f != x.e {
			t.Errorf("%d: Free = %v, %d; Best = %d, %d", n, free, e, best, f)
		}
	}
}

func TestP9_9Loosen(t *testing.T) {
	none, counts := 0, make(map[bool]int)
	eachLeft(9, 1000, 2, func(_ *rand.Rand, town api.PlaceTown) {
		prices, _ := pricesIn(town)
		want := 0
		for want <= api.MaxPlaceHarm && len(freeIn(with(town, func(t *api.PlaceTown) { t.Harm = want }), prices)) == 0 {
			want++
		}
		loosen, e := places.Loosen(town)
		if want > api.MaxPlaceHarm {
			none++
			if loosen != 0 || e != api.ErrNone {
				t.Errorf("%v: Loosen = %d, %d", town, loosen, e)
			}
			return
		}
		counts[want > town.Harm]++
		if loosen != want || e != api.OK {
			t.Errorf("%v: Loosen = %d, %d, not %d", town, loosen, e, want)
		}
	})
	if none < 50 || counts[true] < 50 || counts[false] < 50 {
		t.Errorf("not all was tried: %d, %v", none, counts)
	}
	nines := with(widest(), func(t *api.PlaceTown) { t.Far = 0 })
	for n, x := range []struct {
		town api.PlaceTown
		want int
		e    api.Errno
	}{
		{nines, 81, api.OK},
		{widest(), 0, api.ErrNone},
		{with(nines, func(t *api.PlaceTown) { t.Many, t.Harm = 0, 0 }), 0, api.OK},
		{desert(spot(0, feet(1))), 0, api.OK},
		{desert(spot(0, loose())), 0, api.ErrNone},
		{desert(), 0, api.ErrNone},
		{byLaw(8, 0, 3), 6, api.OK},
		{byLaw(8, 99, 3), 6, api.OK},
		{byLaw(5, 0, 3), 3, api.OK},
		{byLaw(21, 0, 9), 18, api.OK},
		{byLaw(31, 0, 9), 0, api.ErrNone},
	} {
		if loosen, e := places.Loosen(x.town); loosen != x.want || e != x.e {
			t.Errorf("%d: Loosen = %d, %d", n, loosen, e)
		}
	}
}

func TestP9_10WholeP9_11Cheapest(t *testing.T) {
	undugs, asked, later, same := 0, 0, 0, 0
	eachLeft(10, 1500, 2, func(_ *rand.Rand, town api.PlaceTown) {
		prices, wholes := pricesIn(town)
		for n, want := range wholes {
			if want == undug {
				undugs++
			} else if want > prices[n] {
				asked++
			}
			if whole, e := places.Whole(town, n); whole != max(0, want) || e == api.OK && want == undug || e != api.OK && (want != undug || e != api.ErrNone) {
				t.Errorf("%v: Whole of %d = %d, %d, not %d", town, n, whole, e, want)
			}
		}
		cheapest, e := places.Cheapest(town)
		first := leastIn(dugIn(wholes), wholes)
		if first == undug {
			if cheapest != 0 || e != api.ErrNone {
				t.Errorf("%v: Cheapest = %d, %d", town, cheapest, e)
			}
			return
		}
		if cheapest != first || e != api.OK {
			t.Errorf("%v: Cheapest = %d, %d, not %d", town, cheapest, e, first)
		}
		if first != leastIn(dugIn(prices), prices) {
			later++
		}
		if slices.Contains(wholes[first+1:], wholes[first]) {
			same++
		}
	})
	if undugs < 100 || asked < 500 || later < 50 || same < 30 {
		t.Errorf("not all was tried: %d, %d, %d, %d", undugs, asked, later, same)
	}
	for n, x := range []struct {
		town                  api.PlaceTown
		spot, whole, cheapest int
	}{
		{widest(), 4, 3672 + 4*99, 0},
		{byLaw(36, 0, 0), 0, 17 + 7 + 4, 0},
		{byLaw(0, 8, 3), 1, 24 + 4, 0},
		{byLaw(0, 9, 3), 1, 24, 0},
		{with(townP(), func(t *api.PlaceTown) { t.Pence = list(12, 4) }), 0, 17 + 12, 1},
		{with(townP(), func(t *api.PlaceTown) { t.Pence = list(11, 4) }), 0, 17 + 11, 0},
		{with(townP(), func(t *api.PlaceTown) { t.Pence = list(99, 11) }), 1, 24 + 11, 2},
		{with(townP(), func(t *api.PlaceTown) { t.Spots[0].Shaft = loose() }), 1, 24 + 4, 1},
		{desert(spot(0, feet(2)), spot(0, feet(1))), 1, 7, 1},
	} {
		whole, e := places.Whole(x.town, x.spot)
		cheapest, f := places.Cheapest(x.town)
		if whole != x.whole || cheapest != x.cheapest || e|f != api.OK {
			t.Errorf("%d: Whole = %d, %d; Cheapest = %d, %d", n, whole, e, cheapest, f)
		}
	}
}

func TestP9_12Pair(t *testing.T) {
	none, later, same := 0, 0, 0
	eachLeft(12, 2500, 2, func(_ *rand.Rand, town api.PlaceTown) {
		_, wholes := pricesIn(town)
		pairs := pairsIn(town, wholes)
		one, other, e := places.Pair(town)
		if len(pairs) == 0 {
			none++
			if one != 0 || other != 0 || e != api.ErrNone {
				t.Errorf("%v: Pair = %d %d, %d", town, one, other, e)
			}
			return
		}
		if one != pairs[0][1] || other != pairs[0][2] || e != api.OK {
			t.Errorf("%v: Pair = %d %d, %d, not %v", town, one, other, e, pairs[0])
		}
		if !slices.Contains(pairs[0][1:], leastIn(dugIn(wholes), wholes)) {
			later++
		}
		if len(pairs) > 1 && pairs[0][0] == pairs[1][0] {
			same++
		}
	})
	if none < 100 || later < 20 || same < 50 {
		t.Errorf("not all was tried: %d, %d, %d", none, later, same)
	}
}

func TestP9_12PairOfThreeSpots(t *testing.T) {
	three := func(a, b, c int) api.PlaceTown {
		return with(desert(spot(a, feet(1)), spot(b, feet(1)), spot(c, feet(1))), func(t *api.PlaceTown) { t.Far = 10 })
	}
	for n, x := range []struct {
		town       api.PlaceTown
		one, other int
		e          api.Errno
	}{
		// Of several pairs the one with the least first spot, and then the other.
		{three(0, 20, 40), 0, 1, api.OK},
		{three(40, 20, 0), 0, 1, api.OK},
		{three(0, 9, 20), 0, 2, api.OK},
		{three(20, 0, 9), 0, 1, api.OK},
		{three(0, 5, 10), 0, 2, api.OK},
		{three(5, 0, 10), 1, 2, api.OK},
		{three(5, 10, 0), 1, 2, api.OK},
		{three(0, 9, 9), 0, 0, api.ErrNone},
		{with(three(3, 3, 3), func(t *api.PlaceTown) { t.Far = 0 }), 0, 1, api.OK},
		{with(three(0, 20, 40), func(t *api.PlaceTown) { t.Spots[0].Shaft = feet(2) }), 1, 2, api.OK},
		{with(three(0, 20, 40), func(t *api.PlaceTown) { t.Spots[1].Shaft = feet(2) }), 0, 2, api.OK},
		{with(three(0, 20, 40), func(t *api.PlaceTown) { t.Spots[1].Shaft = loose() }), 0, 2, api.OK},
		{with(three(0, 20, 40), func(t *api.PlaceTown) { t.Spots[0].Shaft, t.Spots[2].Shaft = loose(), loose() }), 0, 0, api.ErrNone},
		{desert(spot(0, feet(1))), 0, 0, api.ErrNone},
		{desert(), 0, 0, api.ErrNone},
		{widest(), 0, 0, api.ErrNone},
		{with(townP(), func(t *api.PlaceTown) { t.Pence = list(17, 4) }), 0, 1, api.OK},
		{with(townP(), func(t *api.PlaceTown) { t.Pence = list(18, 4) }), 1, 2, api.OK},
		{with(townP(), func(t *api.PlaceTown) { t.Pence = list(7, 18) }), 0, 2, api.OK},
		{with(townP(), func(t *api.PlaceTown) { t.Pence = list(7, 10) }), 0, 1, api.OK},
		// Who forbids both the first and the second one asks for each of them.
		{with(byLaw(9, 99, 0), func(t *api.PlaceTown) { t.Olds, t.Pence = list(22, 50), list(11, 0) }), 0, 2, api.OK},
		{with(byLaw(9, 99, 0), func(t *api.PlaceTown) { t.Olds, t.Pence = list(22, 50), list(10, 0) }), 0, 1, api.OK},
	} {
		one, other, e := places.Pair(x.town)
		if one != x.one || other != x.other || e != x.e {
			t.Errorf("%d: Pair = %d %d, %d", n, one, other, e)
		}
	}
}

func TestNilAndEmpty(t *testing.T) {
	nothing := api.PlaceTown{
		Quarrel: api.QuarrelTown{Worlds: []api.QuarrelWorld{}, Facts: []api.QuarrelFact{}},
		Olds:    list(), Pence: list(), Spots: []api.PlaceSpot{},
	}
	dry := with(nothing, func(t *api.PlaceTown) {
		t.Quarrel.Worlds = []api.QuarrelWorld{{Falls: [][]int{}}}
		t.Spots = []api.PlaceSpot{{Falls: [][]int{{}}, Shaft: api.Shaft{Rocks: []api.ShaftRock{}, Feet: list()}}}
	})
	noWorld := with(dry, func(t *api.PlaceTown) {
		t.Quarrel.Worlds = []api.QuarrelWorld{}
		t.Spots[0].Falls = [][]int{}
	})
	for n, x := range [][2]api.PlaceTown{
		{{}, nothing},
		{desert(spot(0, api.Shaft{})), dry},
		{{Spots: make([]api.PlaceSpot, 1)}, noWorld},
	} {
		for _, name := range list(0, 1, -1) {
			one, zero := errors(x[0], name, name)
			two, isZero := errors(x[1], name, name)
			if places.Check(x[0])|places.Check(x[1]) != api.OK || !slices.Equal(one, two) || !zero || !isZero {
				t.Errorf("%d: errors %v, %v", n, one, two)
			}
		}
		if !slices.Equal(freeOf(x[0]), freeOf(x[1])) || bestOf(x[0]) != bestOf(x[1]) {
			t.Errorf("%d: Free = %v, %v", n, freeOf(x[0]), freeOf(x[1]))
		}
	}
}

// spoil changes all that a list has room for.
func spoil[T any](list []T, with T) {
	for n := range list[:cap(list)] {
		list[:cap(list)][n] = with
	}
}

// spare returns a list that has room for one element more, which is there.
func spare[T any](list []T, last T) []T {
	return append(slices.Clone(list), last)[:len(list)]
}

func TestMemory(t *testing.T) {
	eachLeft(22, 500, 2, func(_ *rand.Rand, town api.PlaceTown) {
		kept := clone(town)
		// What lies behind the lists is the caller's, too.
		town.Olds, town.Pence = spare(town.Olds, 77), spare(town.Pence, 78)
		town.Spots = spare(town.Spots, api.PlaceSpot{At: 79})
		for range 2 {
			free, _ := places.Free(town)
			if !slices.Equal(free, freeOf(kept)) {
				t.Errorf("%v: Free = %v, not %v", kept, free, freeOf(kept))
			}
			spoil(free, -9)
			for n := range town.Spots {
				who, _ := places.Who(town, n)
				decide, _ := places.Decide(town, n)
				other, _ := places.Decide(kept, n)
				if !slices.Equal(who, whoOf(kept, n)) || !slices.Equal(decide, other) {
					t.Errorf("%v: Who of %d = %v, Decide = %v", kept, n, who, decide)
				}
				spoil(who, -9)
				spoil(decide, api.QuarrelTest{From: -9})
				errors(town, n, 0)
			}
		}
		olds, pence, spots := town.Olds[:len(kept.Olds)+1], town.Pence[:len(kept.Pence)+1], town.Spots[:len(kept.Spots)+1]
		if !same(town, kept) || olds[len(kept.Olds)] != 77 || pence[len(kept.Pence)] != 78 || spots[len(kept.Spots)].At != 79 {
			t.Errorf("%v has become %v", kept, town)
		}
	})
}

// anyNumber returns a random number, often one that is not valid.
func anyNumber(r *rand.Rand) int {
	some := list(math.MinInt, math.MinInt+1, -2, -1, 4, 5, 6, 9, 10, 98, 99, 100, math.MaxInt-1, math.MaxInt)
	if r.Intn(3) > 0 {
		return r.Intn(4)
	}
	return some[r.Intn(len(some))]
}

// anyLists returns a few lists of such numbers.
func anyLists(r *rand.Rand) [][]int {
	var lists [][]int
	for range r.Intn(4) {
		var l []int
		for range r.Intn(4) {
			l = append(l, anyNumber(r))
		}
		lists = append(lists, l)
	}
	return lists
}

// spoiled returns a town in which something is any number, or any lists.
func spoiled(r *rand.Rand, town api.PlaceTown) api.PlaceTown {
	some := []*int{&town.Quarrel.Wells, &town.Far, &town.Harm, &town.Many}
	for n := range town.Olds {
		some = append(some, &town.Olds[n], &town.Pence[n])
	}
	for n := range town.Spots {
		s := &town.Spots[n]
		some = append(some, &s.At, &s.Shaft.Deep, &s.Shaft.Rocks[0].Stand)
		for _, falls := range s.Falls {
			for well := range falls {
				some = append(some, &falls[well])
			}
		}
	}
	*some[r.Intn(len(some))] = anyNumber(r)
	if n := len(town.Spots); n > 0 && r.Intn(5) == 0 {
		town.Spots[r.Intn(n)].Falls = anyLists(r)
	}
	switch r.Intn(20) {
	case 0:
		town.Quarrel.Worlds = append(town.Quarrel.Worlds, world(anyLists(r)...))
	case 1:
		town.Olds = append(town.Olds, anyNumber(r))
	case 2:
		town.Spots = append(town.Spots, spot(anyNumber(r), feet(r.Intn(14)), anyLists(r)...))
	}
	return town
}

// areFrom0 reports whether a list has so many numbers, from 0 to another one.
func areFrom0(list []int, many, most int) bool {
	return len(list) == many && !slices.ContainsFunc(list, func(n int) bool { return n < 0 || n > most })
}

// areFalls reports whether some lists are falls of so many wells.
func areFalls(lists [][]int, many, wells int) bool {
	return len(lists) == many && !slices.ContainsFunc(lists, func(l []int) bool { return !areFrom0(l, wells, 9) })
}

// isTown reports whether a town is as the chapter says, if no more is wrong with
// it than can be with what spoiled returns.
func isTown(t api.PlaceTown) bool {
	wells, worlds := t.Quarrel.Wells, t.Quarrel.Worlds
	is := wells >= 0 && wells <= 4 && len(worlds) <= 6 && len(t.Spots) <= 5
	for _, w := range worlds {
		is = is && areFalls(w.Falls, wells, wells)
	}
	for _, f := range t.Quarrel.Facts {
		is = is && f.From < wells && f.To < wells
	}
	for _, s := range t.Spots {
		is = is && areFrom0(list(s.At), 1, 99) && areFalls(s.Falls, len(worlds), wells) && len(s.Shaft.Feet) <= 12
		is = is && areFrom0(list(s.Shaft.Deep), 1, 9) && areFrom0(list(s.Shaft.Rocks[0].Stand), 1, 12)
	}
	return is && areFrom0(t.Olds, wells, 99) && areFrom0(t.Pence, wells, 99) && areFrom0(list(t.Far, t.Harm), 2, 99) && areFrom0(list(t.Many), 1, 9)
}

func TestP1Places(t *testing.T) {
	r := rand.New(rand.NewSource(1))
	good, bad := 0, 0
	for range 20000 {
		town := spoiled(r, someTown(r, 4, api.MaxQuarrelWorlds, 2))
		is := isTown(town)
		if is {
			good++
		} else {
			bad++
		}
		list, zero := errors(town, anyNumber(r), anyNumber(r))
		if e := places.Check(town); (e == api.OK) != is || is == areAll(append(list, e), api.ErrPlace) || !zero {
			t.Errorf("%v: Check = %d, errors %v, zero %v", town, e, list, zero)
		}
	}
	if good < 2000 || bad < 2000 {
		t.Errorf("not all was tried: %d, %d", good, bad)
	}
}
