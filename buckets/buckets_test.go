package buckets_test

import (
	"math"
	"math/rand"
	"slices"
	"testing"

	"steening/api"
	"steening/buckets"
)

// invalid returns towns that are not valid, each for one reason.
func invalid() map[string]api.BucketTown {
	list := map[string]api.BucketTown{
		"7 houses":        {Houses: make([]int, 7)},
		"6 wells":         {Wells: make([]int, 6)},
		"a way, nothing":  {Ways: ways(0, 0)},
		"a way, no wells": {Houses: []int{1}, Ways: ways(0, 0)},
		"a way, no house": {Wells: []int{1}, Ways: ways(0, 0)},
	}
	for name, change := range map[string]func(t *api.BucketTown){
		"wants -1":       func(t *api.BucketTown) { t.Houses[0] = -1 },
		"wants 10":       func(t *api.BucketTown) { t.Houses[2] = 10 },
		"wants most":     func(t *api.BucketTown) { t.Houses[1] = math.MaxInt },
		"has -1":         func(t *api.BucketTown) { t.Wells[1] = -1 },
		"has 21":         func(t *api.BucketTown) { t.Wells[0] = 21 },
		"has least":      func(t *api.BucketTown) { t.Wells[0] = math.MinInt },
		"house -1":       func(t *api.BucketTown) { t.Ways[0].House = -1 },
		"house 3":        func(t *api.BucketTown) { t.Ways[3].House = 3 },
		"house most":     func(t *api.BucketTown) { t.Ways[3].House = math.MaxInt },
		"well -1":        func(t *api.BucketTown) { t.Ways[0].Well = -1 },
		"well 2":         func(t *api.BucketTown) { t.Ways[3].Well = 2 },
		"well least":     func(t *api.BucketTown) { t.Ways[2].Well = math.MinInt },
		"a way twice":    func(t *api.BucketTown) { t.Ways[1] = t.Ways[0] },
		"the last twice": func(t *api.BucketTown) { t.Ways = append(t.Ways, t.Ways[3]) },
		"house order":    func(t *api.BucketTown) { t.Ways[0], t.Ways[1] = t.Ways[1], t.Ways[0] },
		"well order":     func(t *api.BucketTown) { t.Ways[1], t.Ways[2] = t.Ways[2], t.Ways[1] },
		"a way apart":    func(t *api.BucketTown) { t.Ways = append(t.Ways, ways(0, 1)...) },
	} {
		t := townB()
		change(&t)
		list[name] = t
	}
	more := widest()
	more.Ways = append(more.Ways[:12:12], ways(5, 5)...)
	list["well 5"] = more
	more.Ways = inOrder(append(more.Ways[:12:12], ways(5, 0)...))
	list["13 ways"] = more
	return list
}

// errors returns what each function but Check returns as an error, with the
// arguments that are given, and reports whether each other result is its zero
// value.
func errors(t api.BucketTown, house, well int, division []int) (e []api.Errno, zero bool) {
	l, g, e1 := buckets.Good(t, division)
	m, e2 := buckets.Most(t)
	w, e3 := buckets.Worst(t)
	k, e4 := buckets.Lacks(t)
	f, e5 := buckets.Fair(t)
	h, e6 := buckets.House(t, house)
	d, e7 := buckets.Dry(t, well)
	s, e8 := buckets.Short(t)
	p, e9 := buckets.Helps(t)
	y, e10 := buckets.Way(t, house, well)
	zero = m|w|d|h.Low|h.High == 0 && !g && !y && len(l)+len(k)+len(f)+len(s)+len(p) == 0
	return []api.Errno{e1, e2, e3, e4, e5, e6, e7, e8, e9, e10}, zero
}

func TestP3_1Check(t *testing.T) {
	for n, town := range append(plain(), widest()) {
		if e := buckets.Check(town); e != api.OK {
			t.Errorf("%d: Check = %d", n, e)
		}
	}
	for name, town := range invalid() {
		if e := buckets.Check(town); e != api.ErrBucket {
			t.Errorf("%s: Check = %d", name, e)
		}
		// ErrBucket is named first, whatever else is wrong.
		for _, n := range []int{0, -1, 99} {
			list, zero := errors(town, n, n, []int{n})
			if slices.ContainsFunc(list, func(e api.Errno) bool { return e != api.ErrBucket }) || !zero {
				t.Errorf("%s: errors %v, zero %v", name, list, zero)
			}
		}
	}
}

func TestExamples(t *testing.T) {
	for n, x := range []struct {
		division, lacks []int
		good            bool
	}{{[]int{3, 1, 1, 2}, []int{2, 2, 1}, true}, {[]int{3, 2, 1, 2}, nil, false}, {[]int{4, 0, 0, 3}, []int{4, 1, 0}, true}} {
		if lacks, good, e := buckets.Good(townB(), x.division); !slices.Equal(lacks, x.lacks) || good != x.good || e != api.OK {
			t.Errorf("%d: Good = %v, %v, %d", n, lacks, good, e)
		}
	}
	for n, x := range []struct {
		town               api.BucketTown
		most, worst        int
		lacks, short, help []int
		houses             []api.Span
		dry                []int
	}{
		{townB(), 7, 2, []int{2, 2, 1}, []int{0}, []int{0, 1}, []api.Span{{Low: 3, High: 4}, {Low: 2, High: 3}, {Low: 1, High: 2}}, []int{api.Surely, api.Surely}},
		{townC(), 2, 3, []int{3, 0}, []int{1}, []int{1}, []api.Span{{Low: 2, High: 2}, {}}, []int{api.Never, api.Surely}},
		{townD(), 1, 0, []int{0}, nil, nil, []api.Span{{Low: 1, High: 1}}, []int{api.Perhaps, api.Perhaps}},
	} {
		most, e := buckets.Most(x.town)
		worst, f := buckets.Worst(x.town)
		if most != x.most || worst != x.worst || e != api.OK || f != api.OK {
			t.Errorf("%d: Most = %d, %d; Worst = %d, %d", n, most, e, worst, f)
		}
		lacks, e := buckets.Lacks(x.town)
		help, f := buckets.Helps(x.town)
		if !slices.Equal(lacks, x.lacks) || !slices.Equal(help, x.help) || e != api.OK || f != api.OK {
			t.Errorf("%d: Lacks = %v, %d; Helps = %v, %d", n, lacks, e, help, f)
		}
		if short, e := buckets.Short(x.town); !slices.Equal(short, x.short) || (e == api.OK) != (n < 2) {
			t.Errorf("%d: Short = %v, %d", n, short, e)
		}
		for house, want := range x.houses {
			if h, e := buckets.House(x.town, house); h != want || e != api.OK {
				t.Errorf("%d: House %d = %v, %d", n, house, h, e)
			}
		}
		for well, want := range x.dry {
			if d, e := buckets.Dry(x.town, well); d != want || e != api.OK {
				t.Errorf("%d: Dry %d = %d, %d", n, well, d, e)
			}
		}
	}
	for n, x := range []struct {
		town        api.BucketTown
		house, well int
		helps       bool
		e           api.Errno
	}{{townB(), 0, 1, false, api.OK}, {townB(), 2, 0, false, api.OK}, {townB(), 0, 0, false, api.ErrNone}, {townC(), 1, 0, true, api.OK}} {
		if helps, e := buckets.Way(x.town, x.house, x.well); helps != x.helps || e != x.e {
			t.Errorf("%d: Way = %v, %d", n, helps, e)
		}
	}
}

// someList returns a list of numbers that may be near a division.
func someList(r *rand.Rand, ways int) []int {
	list := make([]int, max(0, ways+r.Intn(9)/8-r.Intn(9)/8))
	for n := range list {
		list[n] = r.Intn(4) - r.Intn(10)/9
	}
	return list
}

func TestP3_2Good(t *testing.T) {
	r := rand.New(rand.NewSource(2))
	good := 0
	eachSmall(2, func(town api.BucketTown, all [][]int) {
		for _, division := range all[:min(len(all), 20)] {
			lacks, is, e := buckets.Good(town, division)
			if !is || !slices.Equal(lacks, lacksIn(town, houseDraws(town, division))) || e != api.OK {
				t.Errorf("Good(%v, %v) = %v, %v, %d", town, division, lacks, is, e)
			}
		}
		for range 20 {
			list := someList(r, len(town.Ways))
			want := slices.ContainsFunc(all, func(division []int) bool { return slices.Equal(division, list) })
			lacks, is, e := buckets.Good(town, list)
			if want && len(list) > 0 {
				good++
			}
			if is != want || !is && len(lacks) > 0 || e != api.OK {
				t.Errorf("Good(%v, %v) = %v, %v, %d", town, list, lacks, is, e)
			}
		}
	})
	if good == 0 {
		t.Error("no random list was a division")
	}
	// A house, or a well, is not to be made up for by another one; numbers
	// that are too great, or below 0, are none, whatever their sum.
	for _, list := range [][]int{nil, {}, {3, 1, 1}, {3, 1, 1, 2, 0}, {4, 1, 0, 0}, {0, 0, 2, 2}, {0, 3, 2, 0}, {5, 0, 0, 0}, {5, -1, 0, 0}, {-1, 0, 0, 0}, {0, math.MaxInt, math.MaxInt, 2}, {math.MinInt, math.MinInt, 0, 0}, {math.MaxInt, math.MinInt, 0, 0}, {0, math.MinInt, math.MinInt, 0}} {
		if lacks, good, e := buckets.Good(townB(), list); good || len(lacks) > 0 || e != api.OK {
			t.Errorf("Good of %v = %v, %v, %d", list, lacks, good, e)
		}
	}
	// Without ways there is one division.
	if lacks, good, e := buckets.Good(api.BucketTown{Houses: []int{3, 0, 9}}, nil); !good || !slices.Equal(lacks, []int{9, 3, 0}) || e != api.OK {
		t.Errorf("Good without ways = %v, %v, %d", lacks, good, e)
	}
	if lacks, good, e := buckets.Good(api.BucketTown{}, []int{}); !good || len(lacks) > 0 || e != api.OK {
		t.Errorf("Good without anything = %v, %v, %d", lacks, good, e)
	}
}

func TestP3_3Most(t *testing.T) {
	eachSmall(3, func(town api.BucketTown, all [][]int) {
		want := 0
		for _, division := range all {
			want = max(want, total(division))
		}
		if most, e := buckets.Most(town); most != want || e != api.OK {
			t.Errorf("Most(%v) = %d, %d, not %d", town, most, e, want)
		}
	})
	eachBig(3, func(_ *rand.Rand, town api.BucketTown) {
		if most, e := buckets.Most(town); most != mostOf(town) || e != api.OK {
			t.Errorf("Most(%v) = %d, %d, not %d", town, most, e, mostOf(town))
		}
	})
	if most, _ := buckets.Most(widest()); most != 54 {
		t.Errorf("Most of the widest town = %d", most)
	}
}

// checkLacks checks P3.4 and P3.5 with the lacks of the fairest divisions.
func checkLacks(t *testing.T, town api.BucketTown, want []int) {
	lacks, e := buckets.Lacks(town)
	if !slices.Equal(lacks, want) || e != api.OK {
		t.Errorf("Lacks(%v) = %v, %d, not %v", town, lacks, e, want)
	}
	greatest := 0
	if len(want) > 0 {
		greatest = want[0]
	}
	if worst, e := buckets.Worst(town); worst != greatest || e != api.OK {
		t.Errorf("Worst(%v) = %d, %d, not %d", town, worst, e, greatest)
	}
}

func TestP3_4WorstP3_5LacksP3_6Fair(t *testing.T) {
	eachSmall(4, func(town api.BucketTown, all [][]int) {
		fairest, lacks := fairestOf(town, all)
		checkLacks(t, town, lacks)
		fair, e := buckets.Fair(town)
		if !slices.ContainsFunc(fairest, func(division []int) bool { return slices.Equal(division, fair) }) || e != api.OK {
			t.Errorf("Fair(%v) = %v, %d", town, fair, e)
		}
	})
	eachWide(4, func(town api.BucketTown, _ [][]int, lacks []int) {
		checkLacks(t, town, lacks)
		fair, e := buckets.Fair(town)
		its, good, f := buckets.Good(town, fair)
		if !good || !slices.Equal(its, lacks) || e != api.OK || f != api.OK {
			t.Errorf("Fair(%v) = %v, %d; Good = %v, %v, %d", town, fair, e, its, good, f)
		}
	})
	// The one who wants the most is not served first for that.
	town := api.BucketTown{Houses: []int{9, 1}, Wells: []int{9}, Ways: ways(0, 0, 1, 0)}
	if fair, e := buckets.Fair(town); !slices.Equal(fair, []int{8, 1}) && !slices.Equal(fair, []int{9, 0}) || e != api.OK {
		t.Errorf("Fair = %v, %d", fair, e)
	}
}

// spanOf returns the least and the greatest one of some numbers.
func spanOf(numbers []int) api.Span {
	return api.Span{Low: slices.Min(numbers), High: slices.Max(numbers)}
}

// checkHouses checks P3.7 with what each house draws in the fairest divisions.
func checkHouses(t *testing.T, town api.BucketTown, fairest [][]int) {
	for house := range town.Houses {
		var draws []int
		for _, each := range fairest {
			draws = append(draws, each[house])
		}
		if s, e := buckets.House(town, house); s != spanOf(draws) || e != api.OK {
			t.Errorf("House(%v, %d) = %v, %d, not %v", town, house, s, e, spanOf(draws))
		}
	}
	for _, house := range []int{-1, len(town.Houses), math.MinInt, math.MaxInt} {
		if s, e := buckets.House(town, house); s != (api.Span{}) || e != api.ErrArg {
			t.Errorf("House(%v, %d) = %v, %d", town, house, s, e)
		}
	}
}

func TestP3_7House(t *testing.T) {
	eachSmall(7, func(town api.BucketTown, all [][]int) {
		fairest, _ := fairestOf(town, all)
		var draws [][]int
		for _, division := range fairest {
			draws = append(draws, houseDraws(town, division))
		}
		checkHouses(t, town, draws)
	})
	eachWide(7, func(town api.BucketTown, fairest [][]int, _ []int) {
		checkHouses(t, town, fairest)
	})
}

// gives returns the least and the greatest number of buckets that a well gives
// if the houses draw so much: what all others cannot give, and what the houses
// that may draw from it draw.
func gives(t api.BucketTown, draws []int, well int) api.Span {
	others := api.BucketTown{Houses: draws, Wells: slices.Clone(t.Wells), Ways: t.Ways}
	others.Wells[well] = 0
	from := 0
	for _, way := range t.Ways {
		if way.Well == well {
			from += draws[way.House]
		}
	}
	return api.Span{Low: total(draws) - mostOf(others), High: min(from, t.Wells[well])}
}

func TestP3_8Dry(t *testing.T) {
	counts := make(map[int]int)
	eachWide(8, func(town api.BucketTown, fairest [][]int, _ []int) {
		for well, has := range town.Wells {
			s := gives(town, fairest[0], well)
			for _, draws := range fairest {
				other := gives(town, draws, well)
				s.Low, s.High = min(s.Low, other.Low), max(s.High, other.High)
			}
			want := api.Perhaps
			switch {
			case s.Low == has:
				want = api.Surely
			case s.High < has:
				want = api.Never
			}
			counts[want]++
			if d, e := buckets.Dry(town, well); d != want || e != api.OK {
				t.Errorf("Dry(%v, %d) = %d, %d, not %d", town, well, d, e, want)
			}
		}
	})
	eachSmall(8, func(town api.BucketTown, all [][]int) {
		fairest, _ := fairestOf(town, all)
		for well, has := range town.Wells {
			dry := 0
			for _, division := range fairest {
				if given(town, division)[well] == has {
					dry++
				}
			}
			want := api.Perhaps
			switch dry {
			case len(fairest):
				want = api.Surely
			case 0:
				want = api.Never
			}
			counts[want]++
			if d, e := buckets.Dry(town, well); d != want || e != api.OK {
				t.Errorf("Dry(%v, %d) = %d, %d, not %d", town, well, d, e, want)
			}
		}
		for _, well := range []int{-1, len(town.Wells), math.MinInt, math.MaxInt} {
			if d, e := buckets.Dry(town, well); d != 0 || e != api.ErrArg {
				t.Errorf("Dry(%v, %d) = %d, %d", town, well, d, e)
			}
		}
	})
	if counts[api.Surely] < 100 || counts[api.Never] < 100 || counts[api.Perhaps] < 100 {
		t.Errorf("not all was tried: %v", counts)
	}
}

// shortOf returns the fewest houses that want more than they reach, the least
// list of several, if there are any.
func shortOf(t api.BucketTown) []int {
	var all [][]int
	for set := range 1 << len(t.Houses) {
		if sumOf(t.Houses, set) > reached(t, set) {
			var some []int
			for house := range t.Houses {
				if set>>house&1 == 1 {
					some = append(some, house)
				}
			}
			all = append(all, some)
		}
	}
	if len(all) == 0 {
		return nil
	}
	return slices.MinFunc(all, func(a, b []int) int { return 10*(len(a)-len(b)) + slices.Compare(a, b) })
}

func TestP3_9Short(t *testing.T) {
	counts := make(map[int]int)
	eachBig(9, func(_ *rand.Rand, town api.BucketTown) {
		want := shortOf(town)
		counts[len(want)]++
		short, e := buckets.Short(town)
		if !slices.Equal(short, want) || (e == api.OK) != (len(want) > 0) || e != api.OK && e != api.ErrNone {
			t.Errorf("Short(%v) = %v, %d, not %v", town, short, e, want)
		}
	})
	if counts[0] == 0 || counts[1] == 0 || counts[2] == 0 || counts[3] == 0 {
		t.Errorf("not all was tried: %v", counts)
	}
	// Of several the fewest, and of as many the least list, though the houses
	// of another one are short by more.
	pairs := api.BucketTown{Houses: []int{2, 3, 3, 9, 9}, Wells: []int{5, 4, 9}, Ways: ways(0, 0, 1, 0, 1, 1, 2, 1, 3, 2, 4, 2)}
	if short, e := buckets.Short(pairs); !slices.Equal(short, []int{3, 4}) || e != api.OK {
		t.Errorf("Short = %v, %d", short, e)
	}
	pairs.Wells[0] = 4
	if short, e := buckets.Short(pairs); !slices.Equal(short, []int{3, 4}) || e != api.OK {
		t.Errorf("Short = %v, %d", short, e)
	}
	pairs.Houses[0], pairs.Houses[1], pairs.Ways = 4, 1, ways(0, 0, 1, 1, 2, 0, 3, 2, 4, 2)
	if short, e := buckets.Short(pairs); !slices.Equal(short, []int{0, 2}) || e != api.OK {
		t.Errorf("Short = %v, %d", short, e)
	}
}

func TestP3_10Helps(t *testing.T) {
	check := func(town api.BucketTown, lacksOf func(t api.BucketTown) []int) {
		var want []int
		for well := range town.Wells {
			if isFairer(lacksOf(richer(town, well)), lacksOf(town)) {
				want = append(want, well)
			}
		}
		if helps, e := buckets.Helps(town); !slices.Equal(helps, want) || e != api.OK {
			t.Errorf("Helps(%v) = %v, %d, not %v", town, helps, e, want)
		}
	}
	eachSmall(10, func(town api.BucketTown, _ [][]int) {
		check(town, func(t api.BucketTown) []int {
			_, lacks := fairestOf(t, divisions(t))
			return lacks
		})
	})
	eachWide(10, func(town api.BucketTown, _ [][]int, _ []int) {
		check(town, func(t api.BucketTown) []int {
			_, lacks := fairestDraws(t)
			return lacks
		})
	})
	// A bucket more than a well can have would help all the same.
	full := api.BucketTown{Houses: []int{9, 9, 9}, Wells: []int{20, 20}, Ways: ways(0, 0, 1, 0, 2, 0)}
	if helps, e := buckets.Helps(full); !slices.Equal(helps, []int{0}) || e != api.OK {
		t.Errorf("Helps of a full well = %v, %d", helps, e)
	}
}

// checkWays checks P3.11 with what the lacks of the fairest divisions are.
func checkWays(t *testing.T, town api.BucketTown, lacksOf func(t api.BucketTown) []int) (helps int) {
	now := lacksOf(town)
	for house := range town.Houses {
		for well := range town.Wells {
			is, e := buckets.Way(town, house, well)
			if slices.Contains(town.Ways, api.BucketWay{House: house, Well: well}) {
				if is || e != api.ErrNone {
					t.Errorf("Way(%v, %d, %d) = %v, %d", town, house, well, is, e)
				}
				continue
			}
			want := isFairer(lacksOf(wider(town, house, well)), now)
			if want {
				helps++
			}
			if is != want || e != api.OK {
				t.Errorf("Way(%v, %d, %d) = %v, %d", town, house, well, is, e)
			}
		}
	}
	return helps
}

func TestP3_11Way(t *testing.T) {
	helps := 0
	eachSmall(11, func(town api.BucketTown, _ [][]int) {
		helps += checkWays(t, town, func(t api.BucketTown) []int {
			_, lacks := fairestOf(t, divisions(t))
			return lacks
		})
		for _, n := range []int{-1, 6, math.MinInt, math.MaxInt} {
			for _, x := range [][2]int{{n, 0}, {0, n}, {n, n}} {
				if is, e := buckets.Way(town, x[0], x[1]); is || e != api.ErrArg {
					t.Errorf("Way(%v, %v) = %v, %d", town, x, is, e)
				}
			}
		}
	})
	if helps < 100 {
		t.Errorf("only %d ways helped", helps)
	}
	// A way helps also if it is the thirteenth one.
	full := widest()
	full.Houses, full.Wells[2] = []int{1, 1, 1, 9, 9, 9}, 0
	full.Wells[0], full.Wells[1], full.Wells[3], full.Wells[4] = 9, 9, 20, 20
	if is, e := buckets.Way(full, 3, 4); !is || e != api.OK {
		t.Errorf("Way = %v, %d", is, e)
	}
	if is, e := buckets.Way(full, 5, 0); is || e != api.OK {
		t.Errorf("Way = %v, %d", is, e)
	}
	// A house, or a well, that is just behind the last one.
	for _, x := range [][2]int{{3, 0}, {0, 2}} {
		if is, e := buckets.Way(townB(), x[0], x[1]); is || e != api.ErrArg {
			t.Errorf("Way of %v = %v, %d", x, is, e)
		}
	}
}

func TestNilAndEmpty(t *testing.T) {
	for _, towns := range [][2]api.BucketTown{
		{{}, {Houses: []int{}, Wells: []int{}, Ways: []api.BucketWay{}}},
		{{Houses: []int{4}}, {Houses: []int{4}, Wells: []int{}, Ways: []api.BucketWay{}}},
		{{Wells: []int{4}}, {Houses: []int{}, Wells: []int{4}, Ways: []api.BucketWay{}}},
	} {
		for n := range 3 {
			l, zero := errors(towns[0], n-1, n-1, nil)
			m, empty := errors(towns[1], n-1, n-1, []int{})
			if !slices.Equal(l, m) || zero != empty {
				t.Errorf("%v: %v, %v; %v, %v", towns, l, zero, m, empty)
			}
		}
	}
	lacks, e := buckets.Lacks(api.BucketTown{})
	fair, f := buckets.Fair(api.BucketTown{})
	helps, g := buckets.Helps(api.BucketTown{})
	worst, h := buckets.Worst(api.BucketTown{})
	if len(lacks)+len(fair)+len(helps)+worst != 0 || e != api.OK || f != api.OK || g != api.OK || h != api.OK {
		t.Errorf("nothing: Lacks = %v, %d; Fair = %v, %d; Helps = %v, %d; Worst = %d, %d", lacks, e, fair, f, helps, g, worst, h)
	}
}

// roomy returns a list with other numbers in the memory behind it.
func roomy[T any](list []T, behind T) (short, whole []T) {
	whole = slices.Concat(list, slices.Repeat([]T{behind}, 5))
	return whole[:len(list)], whole
}

func TestMemory(t *testing.T) {
	r := rand.New(rand.NewSource(4))
	for range 300 {
		town := bigTown(r)
		var houses, wells []int
		var all []api.BucketWay
		town.Houses, houses = roomy(town.Houses, 77)
		town.Wells, wells = roomy(town.Wells, 78)
		town.Ways, all = roomy(town.Ways, api.BucketWay{House: 79, Well: 79})
		before := api.BucketTown{Houses: slices.Clone(houses), Wells: slices.Clone(wells), Ways: slices.Clone(all)}
		division := someList(r, len(town.Ways))
		list := slices.Clone(division)
		for n := range 6 {
			errors(town, n, n, division)
		}
		fair, _ := buckets.Fair(town)
		lacks, _ := buckets.Lacks(town)
		its, _, _ := buckets.Good(town, fair)
		want := slices.Clone(lacks)
		for n := range fair {
			fair[n] = -5
		}
		for n := range its {
			its[n] = -6
		}
		if !same(before, api.BucketTown{Houses: houses, Wells: wells, Ways: all}) || !slices.Equal(division, list) {
			t.Fatalf("%v, %v: changed to %v, %v", before, list, town, division)
		}
		if again, _ := buckets.Lacks(town); !slices.Equal(lacks, want) || !slices.Equal(again, want) {
			t.Fatalf("%v: Lacks = %v, %v, not %v", town, lacks, again, want)
		}
	}
}

// TestP1Buckets calls each function with any arguments; one that panics, or
// does not terminate, ends the test.
func TestP1Buckets(t *testing.T) {
	r := rand.New(rand.NewSource(1))
	odd := []int{math.MinInt, math.MinInt + 1, -2, -1, 0, 1, 2, 3, 4, 5, 6, 9, 10, 20, 21, math.MaxInt - 1, math.MaxInt}
	pick := func() int { return odd[r.Intn(len(odd))] }
	for range 5000 {
		town := someTown(r, 8, 7, 14, 10, 21)
		for range r.Intn(3) {
			if len(town.Houses) > 0 {
				town.Houses[r.Intn(len(town.Houses))] = pick()
			}
			if len(town.Wells) > 0 {
				town.Wells[r.Intn(len(town.Wells))] = pick()
			}
			if len(town.Ways) > 0 {
				town.Ways[r.Intn(len(town.Ways))] = api.BucketWay{House: pick(), Well: pick()}
			}
		}
		var division []int
		for range r.Intn(16) {
			division = append(division, pick())
		}
		valid := buckets.Check(town) == api.OK
		list, zero := errors(town, pick(), pick(), division)
		if slices.Contains(list, api.ErrBucket) == valid || !valid && !zero {
			t.Errorf("%v: valid %v, errors %v, zero %v", town, valid, list, zero)
		}
	}
}
