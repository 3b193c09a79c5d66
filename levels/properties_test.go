package levels_test

import (
	"math"
	"math/rand"
	"slices"
	"testing"

	"steening/api"
	"steening/levels"
)

// level, differ, lowest and highest return results of towns that have truths.
func level(t *testing.T, town api.LevelTown, well int) api.Span {
	s, e := levels.Level(town, well)
	if e != api.OK {
		t.Fatalf("Level(%v, %d): %d", town, well, e)
	}
	return s
}

func differ(t *testing.T, town api.LevelTown, a, b int) api.Span {
	s, e := levels.Differ(town, a, b)
	if e != api.OK {
		t.Fatalf("Differ(%v, %d, %d): %d", town, a, b, e)
	}
	return s
}

func lowest(t *testing.T, town api.LevelTown) []int {
	l, e := levels.Lowest(town)
	if e != api.OK {
		t.Fatalf("Lowest(%v): %d", town, e)
	}
	return l
}

func highest(t *testing.T, town api.LevelTown) []int {
	l, e := levels.Highest(town)
	if e != api.OK {
		t.Fatalf("Highest(%v): %d", town, e)
	}
	return l
}

// within reports whether a span is within another one.
func within(s, of api.Span) bool { return of.Low <= s.Low && s.High <= of.High }

// eachWide calls a function with random towns of up to six wells, and a truth.
func eachWide(seed int64, call func(r *rand.Rand, town api.LevelTown, truth []int)) {
	r := rand.New(rand.NewSource(seed))
	for range 400 {
		town, truth := wideTown(r)
		call(r, town, truth)
	}
}

func TestP1_13EachTruth(t *testing.T) {
	eachWide(13, func(_ *rand.Rand, town api.LevelTown, truth []int) {
		for _, list := range [][]int{truth, lowest(t, town), highest(t, town)} {
			if is, e := levels.Holds(town, list); !is || e != api.OK {
				t.Errorf("Holds(%v, %v) = %v, %d", town, list, is, e)
			}
			for a := range town.Wells {
				if n := list[a]; !within(span(n, n), level(t, town, a)) {
					t.Errorf("%v: the level of %d is not within Level", town, a)
				}
				for b := range town.Wells {
					if n := list[b] - list[a]; !within(span(n, n), differ(t, town, a, b)) {
						t.Errorf("%v: the difference of %d, %d is not within Differ", town, a, b)
					}
				}
			}
		}
	})
}

// fixed returns whether a town has a truth in which the levels of wells are so.
func fixed(town api.LevelTown, wells, levels []int) bool {
	town = clone(town)
	for n, well := range wells {
		town.Soundings = append(town.Soundings, sounding(well, levels[n], levels[n]))
	}
	return possible(town)
}

func TestP1_14TheEnds(t *testing.T) {
	eachWide(14, func(_ *rand.Rand, town api.LevelTown, _ []int) {
		for a := range town.Wells {
			s := level(t, town, a)
			if !fixed(town, []int{a}, []int{s.Low}) || !fixed(town, []int{a}, []int{s.High}) {
				t.Errorf("%v: an end %v of Level of %d is in no truth", town, s, a)
			}
			for b := range town.Wells {
				if a == b {
					continue
				}
				s := differ(t, town, a, b)
				for _, end := range []int{s.Low, s.High} {
					more := clone(town)
					more.Slopes = append(more.Slopes, slope(a, b, end, end))
					if !possible(more) {
						t.Errorf("%v: an end %v of Differ of %d, %d is in no truth", town, s, a, b)
					}
				}
			}
		}
	})
}

func TestP1_15OneWordMore(t *testing.T) {
	eachWide(15, func(r *rand.Rand, town api.LevelTown, truth []int) {
		more := addWord(r, town, truth, 9)
		if levels.Check(more) != api.OK {
			return
		}
		for a := range town.Wells {
			if !within(level(t, more, a), level(t, town, a)) {
				t.Errorf("%v, %v: Level of %d is wider", town, more, a)
			}
			for b := range town.Wells {
				if !within(differ(t, more, a, b), differ(t, town, a, b)) {
					t.Errorf("%v, %v: Differ of %d, %d is wider", town, more, a, b)
				}
				knew, _ := levels.Higher(town, a, b)
				knows, _ := levels.Higher(more, a, b)
				if knew != api.Perhaps && knows != knew {
					t.Errorf("%v, %v: Higher of %d, %d is %d, and was %d", town, more, a, b, knows, knew)
				}
			}
		}
	})
}

func TestP1_16ThreeWells(t *testing.T) {
	eachWide(16, func(_ *rand.Rand, town api.LevelTown, _ []int) {
		for a := range town.Wells {
			for b := range town.Wells {
				one := differ(t, town, a, b)
				if differ(t, town, b, a) != span(-one.High, -one.Low) {
					t.Errorf("%v: Differ of %d, %d is not that of %d, %d", town, b, a, a, b)
				}
				for c := range town.Wells {
					other := differ(t, town, b, c)
					if !within(differ(t, town, a, c), span(one.Low+other.Low, one.High+other.High)) {
						t.Errorf("%v: Differ of %d, %d is too wide", town, a, c)
					}
				}
			}
		}
	})
}

// raise returns a town in which all soundings are greater by a number; false
// if they would be no soundings.
func raise(town api.LevelTown, by int) (api.LevelTown, bool) {
	town = clone(town)
	for n := range town.Soundings {
		town.Soundings[n].Low += by
		town.Soundings[n].High += by
	}
	return town, levels.Check(town) == api.OK
}

// inside reports whether no level of Lowest or Highest is 0 or MaxLevel.
func inside(t *testing.T, town api.LevelTown) bool {
	all := append(lowest(t, town), highest(t, town)...)
	return slices.Min(all) > 0 && slices.Max(all) < api.MaxLevel
}

func TestP1_17Deeper(t *testing.T) {
	tried := 0
	r := rand.New(rand.NewSource(17))
	for range 600 {
		town, _ := someTown(r, 1+r.Intn(4))
		by := r.Intn(41) - 20
		deeper, is := raise(town, by)
		if !is || !possible(deeper) || !inside(t, town) || !inside(t, deeper) {
			continue
		}
		tried++
		low, high := lowest(t, town), highest(t, town)
		for n := range low {
			low[n] += by
			high[n] += by
		}
		if !slices.Equal(lowest(t, deeper), low) || !slices.Equal(highest(t, deeper), high) {
			t.Errorf("%v: Lowest or Highest is not greater by %d", town, by)
		}
		for a := range town.Wells {
			for b := range town.Wells {
				if differ(t, town, a, b) != differ(t, deeper, a, b) {
					t.Errorf("%v: Differ of %d, %d is not the same by %d", town, a, b, by)
				}
			}
		}
	}
	if tried < 50 {
		t.Errorf("only %d towns were tried", tried)
	}
}

func TestP1_18UpsideDown(t *testing.T) {
	eachWide(18, func(_ *rand.Rand, town api.LevelTown, _ []int) {
		turned := clone(town)
		for n, s := range turned.Soundings {
			turned.Soundings[n] = sounding(s.Well, api.MaxLevel-s.High, api.MaxLevel-s.Low)
		}
		for n, s := range turned.Slopes {
			turned.Slopes[n] = slope(s.B, s.A, s.Low, s.High)
		}
		high := highest(t, turned)
		for well, low := range lowest(t, town) {
			if high[well] != api.MaxLevel-low {
				t.Errorf("%v: Highest of %d upside down is %d, Lowest was %d", town, well, high[well], low)
			}
		}
	})
}

func TestP1_19TheClash(t *testing.T) {
	r := rand.New(rand.NewSource(19))
	tried := 0
	for n := range 500 {
		town := anyTown(r, n%6)
		if levels.Check(town) != api.OK {
			continue
		}
		list, e := levels.Clash(town)
		if possible(town) != (e == api.ErrNone) || e != api.ErrNone && e != api.OK {
			t.Errorf("Clash(%v) = %v, %d", town, list, e)
		}
		if e != api.OK {
			continue
		}
		tried++
		alone := func(left int) bool {
			return possible(keep(town, func(word int) bool { return word != left && slices.Contains(list, word) }))
		}
		if alone(-1) {
			t.Errorf("Clash(%v) = %v, with which there is a truth", town, list)
		}
		for _, word := range list {
			if !alone(word) {
				t.Errorf("Clash(%v) = %v, without %d there is no truth either", town, list, word)
			}
		}
	}
	if tried < 50 {
		t.Errorf("only %d towns were tried", tried)
	}
}

func TestP1_20IdleWords(t *testing.T) {
	eachWide(20, func(_ *rand.Rand, town api.LevelTown, _ []int) {
		list, e := levels.Idle(town)
		if e != api.OK {
			t.Errorf("Idle(%v): %d", town, e)
		}
		for word := range words(town) {
			less := drop(town, word)
			is := slices.Equal(lowest(t, less), lowest(t, town)) && slices.Equal(highest(t, less), highest(t, town))
			if is != slices.Contains(list, word) {
				t.Errorf("Idle(%v) = %v, but for %d", town, list, word)
			}
		}
	})
}

func TestP1_21Why(t *testing.T) {
	eachWide(21, func(_ *rand.Rand, town api.LevelTown, _ []int) {
		for well := range town.Wells {
			list, e := levels.Why(town, well)
			if e != api.OK || len(list) == 0 || list[len(list)-1] != well {
				t.Fatalf("Why(%v, %d) = %v, %d", town, well, list, e)
			}
			for n, at := range list {
				if sum, is := together(town, list[:n+1]); !is || sum != level(t, town, at).High {
					t.Errorf("Why(%v, %d) = %v: up to %d these are %d", town, well, list, at, sum)
				}
			}
		}
	})
}

// extreme returns a number that may be any one, but often a likely one.
func extreme(r *rand.Rand) int {
	odd := []int{math.MinInt, math.MinInt + 1, -100, -99, -1, 0, 1, 2, 3, 6, 7, 99, 100, math.MaxInt - 1, math.MaxInt}
	if r.Intn(3) == 0 {
		return odd[r.Intn(len(odd))]
	}
	return r.Intn(8)
}

// wildTown returns a town of any numbers.
func wildTown(r *rand.Rand) api.LevelTown {
	t := api.LevelTown{Wells: extreme(r)}
	for range r.Intn(10) {
		t.Soundings = append(t.Soundings, sounding(extreme(r), extreme(r), extreme(r)))
	}
	for range r.Intn(10) {
		t.Slopes = append(t.Slopes, slope(extreme(r), extreme(r), extreme(r), extreme(r)))
	}
	return t
}

// TestP1 calls each function with any arguments; one that panics, or does not
// terminate, ends the test.
func TestP1(t *testing.T) {
	r := rand.New(rand.NewSource(1))
	for n := range 3000 {
		town := wildTown(r)
		if n%3 == 0 {
			town = anyTown(r, r.Intn(7))
		}
		valid := levels.Check(town) == api.OK
		list, zero := errors(town, extreme(r), extreme(r))
		_, e := levels.Holds(town, []int{extreme(r), extreme(r), extreme(r)})
		_, f := levels.Clash(town)
		list = append(list, e, f)
		if slices.Contains(list, api.ErrLevel) == valid || !valid && !zero {
			t.Errorf("%v: valid %v, errors %v, zero %v", town, valid, list, zero)
		}
	}
}

// deepClash returns a town whose shortest clash is long, behind many words
// that clash with nothing.
func deepClash() api.LevelTown {
	town := api.LevelTown{Wells: 6, Soundings: slices.Repeat([]api.LevelSounding{sounding(3, 0, 99)}, 6)}
	town.Slopes = slices.Repeat([]api.LevelSlope{slope(3, 0, -99, 99)}, 3)
	for well := range 5 {
		town.Slopes = append(town.Slopes, slope(well, well+1, 10, 10))
	}
	town.Soundings = append(town.Soundings, sounding(0, 5, 5), sounding(5, 0, 54))
	return town
}

func TestDeepClash(t *testing.T) {
	if l, e := levels.Clash(deepClash()); !slices.Equal(l, []int{6, 7, 11, 12, 13, 14, 15}) || e != api.OK {
		t.Errorf("Clash = %v, %d", l, e)
	}
}

// TestMemory changes each result, and expects the arguments, and the results
// of a second call, as they were.
func TestMemory(t *testing.T) {
	lists := map[string]func(town api.LevelTown) ([]int, api.Errno){
		"Lowest":  levels.Lowest,
		"Highest": levels.Highest,
		"Clash":   levels.Clash,
		"Idle":    levels.Idle,
		"Over":    func(town api.LevelTown) ([]int, api.Errno) { return levels.Over(town, 0) },
		"Why":     func(town api.LevelTown) ([]int, api.Errno) { return levels.Why(town, 2) },
	}
	twice := townT()
	twice.Soundings = append(twice.Soundings, twice.Soundings...)
	for name, call := range lists {
		for _, town := range []api.LevelTown{townT(), townQ(), twice} {
			before := clone(town)
			list, _ := call(town)
			want := slices.Clone(list)
			for n := range list {
				list[n] = -7
			}
			if again, _ := call(town); !slices.Equal(again, want) || !same(town, before) {
				t.Errorf("%s(%v) = %v, and %v before", name, town, again, want)
			}
		}
	}
	truth := []int{10, 13, 20}
	if is, _ := levels.Holds(townT(), truth); !is || !slices.Equal(truth, []int{10, 13, 20}) {
		t.Errorf("Holds changed a list to %v", truth)
	}
}

func TestNilAndEmpty(t *testing.T) {
	for _, wells := range []int{0, 1, 6} {
		one := api.LevelTown{Wells: wells}
		other := api.LevelTown{Wells: wells, Soundings: []api.LevelSounding{}, Slopes: []api.LevelSlope{}}
		a, e := levels.Lowest(one)
		b, f := levels.Lowest(other)
		c, g := levels.Ask(one)
		d, h := levels.Ask(other)
		if !slices.Equal(a, b) || e != f || c != d || g != h || len(a) != wells || e != api.OK {
			t.Errorf("%d wells: Lowest = %v, %d; %v, %d; Ask = %d, %d; %d, %d", wells, a, e, b, f, c, g, d, h)
		}
	}
}
