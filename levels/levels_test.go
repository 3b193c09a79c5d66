package levels_test

import (
	"math"
	"math/rand"
	"slices"
	"testing"

	"steening/api"
	"steening/levels"
)

// errors returns what each function but Check and Holds returns as an error,
// for wells of which the first one is asked for, and reports whether each
// other result is its zero value.
func errors(t api.LevelTown, a, b int) (e []api.Errno, zero bool) {
	s, e1 := levels.Level(t, a)
	d, e2 := levels.Differ(t, a, b)
	h, e3 := levels.Higher(t, a, b)
	w, e4 := levels.Why(t, a)
	l, e5 := levels.Lowest(t)
	g, e6 := levels.Highest(t)
	o, e7 := levels.Over(t, -1)
	i, e8 := levels.Idle(t)
	n, e9 := levels.Ask(t)
	zero = s == api.Span{} && d == api.Span{} && h == 0 && n == 0
	zero = zero && len(w)+len(l)+len(g)+len(o)+len(i) == 0
	return []api.Errno{e1, e2, e3, e4, e5, e6, e7, e8, e9}, zero
}

// invalid returns towns that are not valid, each for one reason.
func invalid() map[string]api.LevelTown {
	towns := map[string]api.LevelTown{
		"wells -1":      {Wells: -1},
		"wells least":   {Wells: math.MinInt},
		"wells 7":       {Wells: 7},
		"wells most":    {Wells: math.MaxInt},
		"9 soundings":   {Wells: 1, Soundings: slices.Repeat([]api.LevelSounding{sounding(0, 1, 2)}, 9)},
		"9 slopes":      {Wells: 2, Slopes: slices.Repeat([]api.LevelSlope{slope(0, 1, 1, 2)}, 9)},
		"no wells":      {Soundings: []api.LevelSounding{sounding(0, 1, 2)}},
		"no two wells":  {Wells: 1, Slopes: []api.LevelSlope{slope(0, 1, 1, 2)}},
		"no wells 0, 1": {Slopes: []api.LevelSlope{slope(0, 1, 1, 2)}},
	}
	for name, s := range map[string]api.LevelSounding{
		"sounding of -1":     sounding(-1, 1, 2),
		"sounding of 3":      sounding(3, 1, 2),
		"sounding low -1":    sounding(0, -1, 2),
		"sounding low least": sounding(0, math.MinInt, 2),
		"sounding high 100":  sounding(0, 1, 100),
		"sounding high most": sounding(0, 1, math.MaxInt),
		"sounding high 0":    sounding(0, 1, 0),
		"sounding above 99":  sounding(0, 100, 100),
	} {
		t := townT()
		t.Soundings = append(t.Soundings, s)
		towns[name] = t
	}
	for name, s := range map[string]api.LevelSlope{
		"slope of -1":      slope(-1, 1, 1, 2),
		"slope to -1":      slope(1, -1, 1, 2),
		"slope of 3":       slope(3, 1, 1, 2),
		"slope to 3":       slope(1, 3, 1, 2),
		"slope of one":     slope(1, 1, -1, 2),
		"slope low -100":   slope(0, 1, -100, 2),
		"slope low least":  slope(0, 1, math.MinInt, 2),
		"slope high 100":   slope(0, 1, 1, 100),
		"slope high most":  slope(0, 1, 1, math.MaxInt),
		"slope high 0":     slope(0, 1, 1, 0),
		"slope high -100":  slope(0, 1, -100, -100),
		"slope upside":     slope(0, 1, 99, -99),
		"slope low 100 on": slope(0, 1, 100, 100),
	} {
		t := townT()
		t.Slopes = append(t.Slopes, s)
		towns[name] = t
	}
	return towns
}

func TestP1_1Check(t *testing.T) {
	for n, town := range []api.LevelTown{
		{}, {Soundings: []api.LevelSounding{}, Slopes: []api.LevelSlope{}}, townT(), townQ(), {Wells: 6},
		{Wells: 6, Soundings: slices.Repeat([]api.LevelSounding{sounding(5, 0, 99)}, 8), Slopes: slices.Repeat([]api.LevelSlope{slope(5, 0, -99, 99)}, 8)},
		{Wells: 2, Soundings: []api.LevelSounding{sounding(0, 0, 0), sounding(1, 99, 99)}, Slopes: []api.LevelSlope{slope(0, 1, 99, 99), slope(1, 0, -99, -99)}},
	} {
		if e := levels.Check(town); e != api.OK {
			t.Errorf("%d: Check = %d", n, e)
		}
	}
	for name, town := range invalid() {
		if e := levels.Check(town); e != api.ErrLevel {
			t.Errorf("%s: Check = %d", name, e)
		}
	}
}

func TestErrorsInOrder(t *testing.T) {
	for name, town := range invalid() {
		for _, well := range []int{0, -1, 3} {
			list, zero := errors(town, well, well)
			is, e := levels.Holds(town, nil)
			clash, f := levels.Clash(town)
			list = append(list, e, f)
			if slices.ContainsFunc(list, func(e api.Errno) bool { return e != api.ErrLevel }) || !zero || is || len(clash) > 0 {
				t.Errorf("%s: errors %v, zero %v, Holds %v, Clash %v", name, list, zero, is, clash)
			}
		}
	}
	for _, well := range []int{-1, 3, 6, math.MinInt, math.MaxInt} {
		for _, town := range []api.LevelTown{townT(), townQ()} {
			list, _ := errors(town, well, 0)
			_, e := levels.Differ(town, 0, well)
			_, f := levels.Higher(town, 0, well)
			_, g := levels.Differ(town, well, well)
			_, h := levels.Higher(town, well, well)
			list = append(list[:4], e, f, g, h)
			if slices.ContainsFunc(list, func(e api.Errno) bool { return e != api.ErrArg }) {
				t.Errorf("well %d of %v: errors %v", well, town, list)
			}
		}
		if _, zero := errors(townQ(), well, 0); !zero {
			t.Errorf("well %d of Q: a result with an error", well)
		}
	}
	list, zero := errors(townQ(), 0, 1)
	if slices.ContainsFunc(list, func(e api.Errno) bool { return e != api.ErrNone }) || !zero {
		t.Errorf("Q: errors %v, zero %v", list, zero)
	}
}

func TestP1_2Holds(t *testing.T) {
	for n, x := range []struct {
		town api.LevelTown
		list []int
		want bool
	}{
		{townT(), []int{10, 13, 20}, true},
		{townT(), []int{12, 17, 25}, true},
		{townT(), []int{12, 15, 20}, true},
		{townT(), []int{9, 13, 20}, false},
		{townT(), []int{13, 17, 24}, false},
		{townT(), []int{12, 14, 20}, false},
		{townT(), []int{10, 16, 22}, false},
		{townT(), []int{10, 13, 22}, false},
		{townT(), []int{12, 17, 19}, false},
		{townT(), nil, false},
		{townT(), []int{10, 13}, false},
		{townT(), []int{10, 13, 20, 20}, false},
		{townQ(), []int{12, 18, 25}, false},
		{api.LevelTown{}, nil, true},
		{api.LevelTown{}, []int{}, true},
		{api.LevelTown{}, []int{0}, false},
		{api.LevelTown{Wells: 2}, []int{0, 99}, true},
		{api.LevelTown{Wells: 2}, []int{-1, 99}, false},
		{api.LevelTown{Wells: 2}, []int{0, 100}, false},
		{api.LevelTown{Wells: 2}, []int{math.MinInt, math.MaxInt}, false},
		{api.LevelTown{Wells: 2, Slopes: []api.LevelSlope{slope(0, 1, -99, 99)}}, []int{math.MinInt, math.MaxInt}, false},
	} {
		if is, e := levels.Holds(x.town, x.list); is != x.want || e != api.OK {
			t.Errorf("%d: Holds = %v, %d", n, is, e)
		}
	}
	r := rand.New(rand.NewSource(2))
	for range 200 {
		town := anyTown(r, r.Intn(3))
		list := someLevels(r, town.Wells)
		if is, e := levels.Holds(town, list); is != agrees(town, list) || e != api.OK {
			t.Errorf("Holds(%v, %v) = %v, %d", town, list, is, e)
		}
	}
}

func TestExamples(t *testing.T) {
	town := townT()
	for well, want := range []api.Span{span(10, 12), span(13, 17), span(20, 25)} {
		if s, e := levels.Level(town, well); s != want || e != api.OK {
			t.Errorf("Level of %d = %v, %d", well, s, e)
		}
	}
	for _, x := range []struct {
		a, b int
		want api.Span
	}{{0, 2, span(8, 13)}, {2, 0, span(-13, -8)}, {0, 1, span(3, 5)}} {
		if s, e := levels.Differ(town, x.a, x.b); s != x.want || e != api.OK {
			t.Errorf("Differ of %d, %d = %v, %d", x.a, x.b, s, e)
		}
	}
	low, e := levels.Lowest(town)
	high, f := levels.Highest(town)
	if !slices.Equal(low, []int{10, 13, 20}) || !slices.Equal(high, []int{12, 17, 25}) || e != api.OK || f != api.OK {
		t.Errorf("Lowest = %v, %d; Highest = %v, %d", low, e, high, f)
	}
	up, e := levels.Higher(town, 2, 0)
	down, f := levels.Higher(town, 0, 1)
	if up != api.Surely || down != api.Never || e != api.OK || f != api.OK {
		t.Errorf("Higher = %d, %d; %d, %d", up, e, down, f)
	}
	some, e := levels.Over(town, 13)
	none, f := levels.Over(town, 21)
	if !slices.Equal(some, []int{1, 2}) || len(none) > 0 || e != api.OK || f != api.OK {
		t.Errorf("Over = %v, %d; %v, %d", some, e, none, f)
	}
	idle, e := levels.Idle(town)
	ask, f := levels.Ask(town)
	if len(idle) > 0 || ask != 1 || e != api.OK || f != api.OK {
		t.Errorf("Idle = %v, %d; Ask = %d, %d", idle, e, ask, f)
	}
	far, e := levels.Why(town, 2)
	near, f := levels.Why(town, 0)
	if !slices.Equal(far, []int{0, 1, 2}) || !slices.Equal(near, []int{0}) || e != api.OK || f != api.OK {
		t.Errorf("Why = %v, %d; %v, %d", far, e, near, f)
	}
	no, e := levels.Clash(town)
	clash, f := levels.Clash(townQ())
	if len(no) > 0 || e != api.ErrNone || !slices.Equal(clash, []int{0, 2, 3}) || f != api.OK {
		t.Errorf("Clash = %v, %d; %v, %d", no, e, clash, f)
	}
	if s, e := levels.Level(townQ(), 0); s != span(0, 0) || e != api.ErrNone {
		t.Errorf("Level of Q = %v, %d", s, e)
	}
}

// eachTown calls a function with towns of few truths, and these truths.
func eachTown(seed int64, call func(town api.LevelTown, all [][]int)) {
	r := rand.New(rand.NewSource(seed))
	for n := range 150 {
		town, _ := someTown(r, n%4)
		call(town, truths(town))
	}
	for _, town := range []api.LevelTown{
		{}, {Wells: 1}, {Wells: 2}, townT(),
		{Wells: 2, Slopes: []api.LevelSlope{slope(0, 1, 99, 99)}},
		{Wells: 2, Slopes: []api.LevelSlope{slope(0, 1, -40, 30), slope(1, 0, -20, 50)}},
		{Wells: 3, Slopes: []api.LevelSlope{slope(0, 1, 30, 60), slope(1, 2, 30, 60), slope(0, 2, 0, 70)}},
		{Wells: 3, Soundings: []api.LevelSounding{sounding(1, 50, 52)}, Slopes: []api.LevelSlope{slope(1, 0, 0, 3), slope(2, 1, -2, 2)}},
	} {
		call(town, truths(town))
	}
}

func TestP1_3Level(t *testing.T) {
	eachTown(3, func(town api.LevelTown, all [][]int) {
		for well := range town.Wells {
			want := spans(all, func(truth []int) int { return truth[well] })
			if s, e := levels.Level(town, well); s != want || e != api.OK {
				t.Errorf("Level(%v, %d) = %v, %d, not %v", town, well, s, e, want)
			}
		}
	})
}

func TestP1_4Differ(t *testing.T) {
	eachTown(4, func(town api.LevelTown, all [][]int) {
		for a := range town.Wells {
			for b := range town.Wells {
				want := spans(all, func(truth []int) int { return truth[b] - truth[a] })
				if s, e := levels.Differ(town, a, b); s != want || e != api.OK || a == b && s != span(0, 0) {
					t.Errorf("Differ(%v, %d, %d) = %v, %d, not %v", town, a, b, s, e, want)
				}
			}
		}
	})
}

func TestP1_5LowestP1_6Highest(t *testing.T) {
	eachTown(5, func(town api.LevelTown, all [][]int) {
		var lows, highs []int
		for well := range town.Wells {
			s := spans(all, func(truth []int) int { return truth[well] })
			lows, highs = append(lows, s.Low), append(highs, s.High)
		}
		if l, e := levels.Lowest(town); !slices.Equal(l, lows) || e != api.OK {
			t.Errorf("Lowest(%v) = %v, %d, not %v", town, l, e, lows)
		}
		if l, e := levels.Highest(town); !slices.Equal(l, highs) || e != api.OK {
			t.Errorf("Highest(%v) = %v, %d, not %v", town, l, e, highs)
		}
	})
}

func TestP1_7Higher(t *testing.T) {
	seen := map[int]int{}
	eachTown(7, func(town api.LevelTown, all [][]int) {
		for a := range town.Wells {
			for b := range town.Wells {
				higher := 0
				for _, truth := range all {
					if truth[a] > truth[b] {
						higher++
					}
				}
				want := api.Perhaps
				if higher == len(all) {
					want = api.Surely
				} else if higher == 0 {
					want = api.Never
				}
				seen[want]++
				if n, e := levels.Higher(town, a, b); n != want || e != api.OK {
					t.Errorf("Higher(%v, %d, %d) = %d, %d, not %d", town, a, b, n, e, want)
				}
			}
		}
	})
	if len(seen) != 3 {
		t.Errorf("not all answers were tried: %v", seen)
	}
	for _, x := range []struct {
		low, high, want int // by how much the well 1 is higher
	}{{1, 5, api.Surely}, {0, 5, api.Perhaps}, {-5, 1, api.Perhaps}, {-5, 0, api.Never}, {0, 0, api.Never}, {1, 1, api.Surely}} {
		town := api.LevelTown{Wells: 2, Slopes: []api.LevelSlope{slope(0, 1, x.low, x.high)}}
		if n, e := levels.Higher(town, 1, 0); n != x.want || e != api.OK {
			t.Errorf("Higher with %d to %d = %d, %d", x.low, x.high, n, e)
		}
	}
}

func TestP1_8Over(t *testing.T) {
	eachTown(8, func(town api.LevelTown, all [][]int) {
		for _, level := range []int{math.MinInt, -1, 0, 1, 10, 25, 50, 51, 75, 98, 99, 100, math.MaxInt} {
			var want []int
			for well := range town.Wells {
				if !slices.ContainsFunc(all, func(truth []int) bool { return truth[well] < level }) {
					want = append(want, well)
				}
			}
			if l, e := levels.Over(town, level); !slices.Equal(l, want) || e != api.OK {
				t.Errorf("Over(%v, %d) = %v, %d, not %v", town, level, l, e, want)
			}
		}
	})
}

// fewest returns the fewest words with which a town has no truth, found by
// trying all lists of words; false if there are none.
func fewest(town api.LevelTown) (best []int, is bool) {
	for set := range 1 << words(town) {
		kept := func(word int) bool { return set>>word&1 == 1 }
		var list []int
		for word := range words(town) {
			if kept(word) {
				list = append(list, word)
			}
		}
		better := !is || len(list) < len(best) || len(list) == len(best) && slices.Compare(list, best) < 0
		if better && !possible(keep(town, kept)) {
			best, is = list, true
		}
	}
	return best, is
}

func TestP1_9Clash(t *testing.T) {
	r := rand.New(rand.NewSource(9))
	clashes := map[int]int{}
	for n := range 2000 {
		town := anyTown(r, n%5)
		if n%2 == 0 {
			town = tightTown(r)
		}
		if levels.Check(town) != api.OK {
			continue
		}
		want, is := fewest(town)
		clashes[len(want)]++
		list, e := levels.Clash(town)
		if !slices.Equal(list, want) || is != (e == api.OK) || !is && e != api.ErrNone {
			t.Errorf("Clash(%v) = %v, %d, not %v", town, list, e, want)
		}
	}
	if clashes[0] == 0 || clashes[2] == 0 || clashes[3] == 0 || clashes[4] == 0 || clashes[5] == 0 {
		t.Errorf("not all lengths were tried: %v", clashes)
	}
}

func TestClashOfManyWords(t *testing.T) {
	// A way through all wells that climbs too high, with two soundings: all
	// seven words that follow each other, and no fewer.
	town := api.LevelTown{Wells: 6, Soundings: []api.LevelSounding{sounding(5, 0, 54), sounding(0, 5, 5)}}
	for well := range 5 {
		town.Slopes = append(town.Slopes, slope(well, well+1, 10, 10))
	}
	if l, e := levels.Clash(town); !slices.Equal(l, []int{0, 1, 2, 3, 4, 5, 6}) || e != api.OK {
		t.Errorf("Clash = %v, %d", l, e)
	}
	// The levels end at MaxLevel even if nothing was sounded.
	town.Soundings = nil
	for n := range town.Slopes {
		town.Slopes[n].Low, town.Slopes[n].High = 20, 20
	}
	if l, e := levels.Clash(town); !slices.Equal(l, []int{0, 1, 2, 3, 4}) || e != api.OK {
		t.Errorf("Clash = %v, %d", l, e)
	}
	// Of several lists with as many words the least one.
	twice := api.LevelTown{Wells: 2, Soundings: []api.LevelSounding{sounding(1, 5, 6), sounding(0, 3, 4), sounding(1, 7, 8), sounding(0, 1, 2)}}
	if l, e := levels.Clash(twice); !slices.Equal(l, []int{0, 2}) || e != api.OK {
		t.Errorf("Clash = %v, %d", l, e)
	}
}

func TestP1_10Idle(t *testing.T) {
	some := 0
	eachTown(10, func(town api.LevelTown, all [][]int) {
		var want []int
		for word := range words(town) {
			less := truths(drop(town, word))
			idle := true
			for well := range town.Wells {
				level := func(truth []int) int { return truth[well] }
				idle = idle && spans(less, level) == spans(all, level)
			}
			if idle {
				want = append(want, word)
			}
		}
		some += len(want)
		if l, e := levels.Idle(town); !slices.Equal(l, want) || e != api.OK {
			t.Errorf("Idle(%v) = %v, %d, not %v", town, l, e, want)
		}
	})
	if some == 0 {
		t.Error("no word was idle")
	}
	// Each of two equal words is idle, since the other one stays; a slope that
	// makes a Differ narrower, but no Level, is.
	town := api.LevelTown{Wells: 2, Soundings: []api.LevelSounding{sounding(0, 5, 9), sounding(0, 5, 9)}, Slopes: []api.LevelSlope{slope(0, 1, -5, 90)}}
	if l, e := levels.Idle(town); !slices.Equal(l, []int{0, 1, 2}) || e != api.OK {
		t.Errorf("Idle = %v, %d", l, e)
	}
}

func TestP1_11Ask(t *testing.T) {
	asked := map[int]int{}
	eachTown(11, func(town api.LevelTown, all [][]int) {
		want, least := -1, widthOf(all, town.Wells)
		for well := range town.Wells {
			by := map[int][][]int{}
			for _, truth := range all {
				by[truth[well]] = append(by[truth[well]], truth)
			}
			worst := 0
			for _, some := range by {
				worst = max(worst, widthOf(some, town.Wells))
			}
			if worst < least {
				want, least = well, worst
			}
		}
		asked[want]++
		n, e := levels.Ask(town)
		if want < 0 && (n != 0 || e != api.ErrNone) || want >= 0 && (n != want || e != api.OK) {
			t.Errorf("Ask(%v) = %d, %d, not %d", town, n, e, want)
		}
	})
	if asked[-1] == 0 || asked[0] == 0 || asked[1] == 0 || asked[2] == 0 {
		t.Errorf("not all answers were tried: %v", asked)
	}
}

// leaves returns what the slopes of a and b leave for the level of b less that
// of a, all of them.
func leaves(town api.LevelTown, a, b int) []int {
	var all []int
	for _, s := range town.Slopes {
		if s.A == a && s.B == b {
			all = append(all, s.High)
		}
		if s.A == b && s.B == a {
			all = append(all, -s.Low)
		}
	}
	return all
}

// together returns what the numbers of a list of wells are together; false if
// two of them that follow each other have no slope.
func together(town api.LevelTown, list []int) (int, bool) {
	sum := api.MaxLevel
	for _, s := range town.Soundings {
		if s.Well == list[0] {
			sum = min(sum, s.High)
		}
	}
	for n := 1; n < len(list); n++ {
		all := leaves(town, list[n-1], list[n])
		if len(all) == 0 {
			return 0, false
		}
		sum += slices.Min(all)
	}
	return sum, true
}

// reasons returns all lists of different wells that end with a well and whose
// numbers are together a level.
func reasons(town api.LevelTown, well, level int) [][]int {
	var all [][]int
	var try func(list []int)
	try = func(list []int) {
		if sum, is := together(town, list); is && sum == level {
			all = append(all, slices.Clone(list))
		}
		for next := range town.Wells {
			if !slices.Contains(list, next) {
				try(append([]int{next}, list...))
			}
		}
	}
	try([]int{well})
	return all
}

func TestP1_12Why(t *testing.T) {
	r := rand.New(rand.NewSource(12))
	several := 0
	lengths := map[int]int{}
	for n := range 1600 {
		town, _ := wideTown(r)
		if n%2 == 0 {
			town = tightTown(r)
		}
		if !possible(town) {
			continue
		}
		for well := range town.Wells {
			s, _ := levels.Level(town, well)
			all := reasons(town, well, s.High)
			slices.SortFunc(all, func(a, b []int) int {
				if len(a) != len(b) {
					return len(a) - len(b)
				}
				return slices.Compare(a, b)
			})
			if len(all) > 1 && len(all[0]) == len(all[1]) {
				several++
			}
			lengths[len(all[0])]++
			if l, e := levels.Why(town, well); !slices.Equal(l, all[0]) || e != api.OK {
				t.Errorf("Why(%v, %d) = %v, %d, not %v", town, well, l, e, all[0])
			}
		}
	}
	if several == 0 || lengths[1] == 0 || lengths[2] == 0 || lengths[3] == 0 || lengths[4] == 0 || lengths[5] == 0 {
		t.Errorf("not all was tried: %d, %v", several, lengths)
	}
}

func TestWhyByTheLowOfASlope(t *testing.T) {
	town := api.LevelTown{Wells: 3, Soundings: []api.LevelSounding{sounding(2, 10, 20), sounding(2, 0, 30)}, Slopes: []api.LevelSlope{slope(0, 2, 4, 9), slope(0, 2, 5, 40), slope(1, 0, -3, 50)}}
	for well, want := range [][]int{{2, 0}, {2, 0, 1}, {2}} {
		if l, e := levels.Why(town, well); !slices.Equal(l, want) || e != api.OK {
			t.Errorf("Why of %d = %v, %d", well, l, e)
		}
	}
	// Of several lists the least one: from the well 1 on, or from the well 2.
	town = api.LevelTown{Wells: 4, Soundings: []api.LevelSounding{sounding(2, 7, 7), sounding(1, 7, 7)}, Slopes: []api.LevelSlope{slope(2, 0, 0, 1), slope(1, 0, 0, 1), slope(0, 3, 0, 0)}}
	if l, e := levels.Why(town, 3); !slices.Equal(l, []int{1, 0, 3}) || e != api.OK {
		t.Errorf("Why = %v, %d", l, e)
	}
}
