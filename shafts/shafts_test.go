package shafts_test

import (
	"math"
	"math/rand"
	"slices"
	"testing"

	"steening/api"
	"steening/shafts"
)

// invalid returns shafts that are not valid, each for one reason.
func invalid() map[string]api.Shaft {
	list := map[string]api.Shaft{
		"5 rocks":          {Rocks: slices.Repeat([]api.ShaftRock{rock(1, 1, 1, 1)}, 5)},
		"13 feet":          {Rocks: []api.ShaftRock{rock(1, 1, 1, 1)}, Feet: make([]int, 13)},
		"a foot, no rocks": {Feet: []int{0}},
	}
	for name, change := range map[string]func(s *api.Shaft){
		"hours -1":     func(s *api.Shaft) { s.Rocks[2].Hours = -1 },
		"hours 10":     func(s *api.Shaft) { s.Rocks[0].Hours = 10 },
		"pence -1":     func(s *api.Shaft) { s.Rocks[1].Pence = -1 },
		"pence 100":    func(s *api.Shaft) { s.Rocks[2].Pence = 100 },
		"pence most":   func(s *api.Shaft) { s.Rocks[2].Pence = math.MaxInt },
		"stand -1":     func(s *api.Shaft) { s.Rocks[0].Stand = -1 },
		"stand 13":     func(s *api.Shaft) { s.Rocks[2].Stand = 13 },
		"seat -2":      func(s *api.Shaft) { s.Rocks[0].Seat = -2 },
		"seat least":   func(s *api.Shaft) { s.Rocks[2].Seat = math.MinInt },
		"seat 100":     func(s *api.Shaft) { s.Rocks[1].Seat = 100 },
		"foot -1":      func(s *api.Shaft) { s.Feet[4] = -1 },
		"foot 3":       func(s *api.Shaft) { s.Feet[0] = 3 },
		"foot most":    func(s *api.Shaft) { s.Feet[2] = math.MaxInt },
		"deep -1":      func(s *api.Shaft) { s.Deep = -1 },
		"deep 10":      func(s *api.Shaft) { s.Deep = 10 },
		"haul -1":      func(s *api.Shaft) { s.Haul = -1 },
		"haul 10":      func(s *api.Shaft) { s.Haul = 10 },
		"rest -1":      func(s *api.Shaft) { s.Rest = -1 },
		"rest 10":      func(s *api.Shaft) { s.Rest = 10 },
		"a rock apart": func(s *api.Shaft) { s.Rocks = append(s.Rocks, rock(0, 0, 0, -2)) },
	} {
		s := shaftS()
		change(&s)
		list[name] = s
	}
	return list
}

// errors returns what each function but Check returns as an error, with the
// arguments that are given, and reports whether each other result is its zero
// value.
func errors(s api.Shaft, n int, stops []int) (e []api.Errno, zero bool) {
	p, h, e1 := shafts.Price(s, n)
	f, e2 := shafts.Falls(s, stops)
	g, e3 := shafts.Good(s, stops)
	c, o, e4 := shafts.Cost(s, stops)
	r, e5 := shafts.Fewest(s)
	l, e6 := shafts.Plan(s)
	m, e7 := shafts.Cheap(s)
	k, e8 := shafts.Cheapest(s)
	w, e9 := shafts.Within(s, n)
	d, e10 := shafts.Deep(s, n)
	x, e11 := shafts.Next(s, n)
	zero = p|h|f|c|o|r|m|w|d|x == 0 && !g && len(l)+len(k) == 0
	return []api.Errno{e1, e2, e3, e4, e5, e6, e7, e8, e9, e10, e11}, zero
}

func TestP2_1Check(t *testing.T) {
	edge := shaftS()
	edge.Rocks[0] = rock(0, 0, 0, 0)
	for n, s := range []api.Shaft{{}, {Rocks: []api.ShaftRock{}, Feet: []int{}}, shaftS(), shaftT(), widest(), edge, {Deep: 9, Haul: 9, Rest: 9}} {
		if e := shafts.Check(s); e != api.OK {
			t.Errorf("%d: Check = %d", n, e)
		}
	}
	for name, s := range invalid() {
		if e := shafts.Check(s); e != api.ErrShaft {
			t.Errorf("%s: Check = %d", name, e)
		}
		// ErrShaft is named first, whatever else is wrong.
		for _, n := range []int{0, -1, 99999} {
			list, zero := errors(s, n, []int{n})
			if slices.ContainsFunc(list, func(e api.Errno) bool { return e != api.ErrShaft }) || !zero {
				t.Errorf("%s: errors %v, zero %v", name, list, zero)
			}
		}
	}
}

func TestExamples(t *testing.T) {
	s, u := shaftS(), shaftT()
	pence, hours, e := shafts.Price(s, 2)
	if pence != 11 || hours != 4 || e != api.OK {
		t.Errorf("Price = %d, %d, %d", pence, hours, e)
	}
	pence, hours, e = shafts.Cost(s, []int{2, 3, 5})
	if pence != 81 || hours != 29 || e != api.OK {
		t.Errorf("Cost = %d, %d, %d", pence, hours, e)
	}
	for n, want := range []bool{true, false, false} {
		list := [][]int{{2, 3, 5}, {2, 3}, {1, 2, 3, 5}}[n]
		if is, e := shafts.Good(s, list); is != want || e != api.OK {
			t.Errorf("Good of %v = %v, %d", list, is, e)
		}
	}
	plan, e := shafts.Plan(s)
	other, f := shafts.Plan(u)
	if !slices.Equal(plan, []int{2, 3, 5}) || !slices.Equal(other, []int{2, 4}) || e != api.OK || f != api.OK {
		t.Errorf("Plan = %v, %d; %v, %d", plan, e, other, f)
	}
	if cheapest, e := shafts.Cheapest(u); !slices.Equal(cheapest, []int{1, 3, 4}) || e != api.OK {
		t.Errorf("Cheapest = %v, %d", cheapest, e)
	}
	ask := func(call func() (int, api.Errno)) [2]int {
		n, e := call()
		return [2]int{n, int(e)}
	}
	for n, x := range []struct {
		got  [2]int
		want int
		e    api.Errno
	}{
		{ask(func() (int, api.Errno) { return shafts.Falls(s, []int{3}) }), 2, api.OK},
		{ask(func() (int, api.Errno) { return shafts.Falls(s, []int{2}) }), 4, api.OK},
		{ask(func() (int, api.Errno) { return shafts.Falls(s, []int{2, 3}) }), 0, api.ErrNone},
		{ask(func() (int, api.Errno) { return shafts.Fewest(s) }), 3, api.OK},
		{ask(func() (int, api.Errno) { return shafts.Fewest(u) }), 2, api.OK},
		{ask(func() (int, api.Errno) { return shafts.Cheap(s) }), 81, api.OK},
		{ask(func() (int, api.Errno) { return shafts.Cheap(u) }), 17, api.OK},
		{ask(func() (int, api.Errno) { return shafts.Within(u, 7) }), 0, api.ErrNone},
		{ask(func() (int, api.Errno) { return shafts.Within(u, 9) }), 26, api.OK},
		{ask(func() (int, api.Errno) { return shafts.Within(u, 10) }), 17, api.OK},
		{ask(func() (int, api.Errno) { return shafts.Deep(u, 1) }), 0, api.OK},
		{ask(func() (int, api.Errno) { return shafts.Deep(u, 10) }), 3, api.OK},
		{ask(func() (int, api.Errno) { return shafts.Deep(u, 17) }), 4, api.OK},
		{ask(func() (int, api.Errno) { return shafts.Next(u, 0) }), 2, api.OK},
		{ask(func() (int, api.Errno) { return shafts.Next(u, 1) }), -7, api.OK},
		{ask(func() (int, api.Errno) { return shafts.Next(s, 0) }), 0, api.ErrNone},
	} {
		if x.got != [2]int{x.want, int(x.e)} {
			t.Errorf("%d: %v, not %d, %d", n, x.got, x.want, x.e)
		}
	}
}

func TestP2_2Price(t *testing.T) {
	eachShaft(2, func(s api.Shaft, _ [][]int) {
		for foot, number := range s.Feet {
			pence, hours, e := shafts.Price(s, foot)
			want := s.Rocks[number].Pence
			for range foot {
				want += s.Deep
			}
			if pence != want || hours != s.Rocks[number].Hours || e != api.OK {
				t.Errorf("Price(%v, %d) = %d, %d, %d", s, foot, pence, hours, e)
			}
		}
		for _, foot := range []int{-1, len(s.Feet), math.MinInt, math.MaxInt} {
			if pence, hours, e := shafts.Price(s, foot); pence != 0 || hours != 0 || e != api.ErrArg {
				t.Errorf("Price(%v, %d) = %d, %d, %d", s, foot, pence, hours, e)
			}
		}
	})
}

// notStops returns lists that are not stops of a shaft with so many feet.
func notStops(feet int) [][]int {
	return [][]int{{0}, {-1}, {feet + 1}, {1, 1}, {2, 1}, {0, 1}, {1, feet + 1}, {math.MinInt}, {math.MaxInt}, {1, math.MinInt}, {3, 4, 3}, make([]int, 20)}
}

func TestP2_3Falls(t *testing.T) {
	never := 0
	eachShaft(3, func(s api.Shaft, _ [][]int) {
		for _, stops := range stopsOf(len(s.Feet)) {
			want := dig(s, stops).fall
			foot, e := shafts.Falls(s, stops)
			if want < 0 {
				never++
			}
			if want < 0 && (foot != 0 || e != api.ErrNone) || want >= 0 && (foot != want || e != api.OK) {
				t.Errorf("Falls(%v, %v) = %d, %d, not %d", s, stops, foot, e, want)
			}
		}
		for _, list := range notStops(len(s.Feet)) {
			if foot, e := shafts.Falls(s, list); foot != 0 || e != api.ErrArg {
				t.Errorf("Falls(%v, %v) = %d, %d", s, list, foot, e)
			}
		}
	})
	if never == 0 {
		t.Error("each shaft could fall")
	}
	// It does not matter whether rings can rest there, nor what the last stop is.
	s := shaftS()
	for n, x := range []struct {
		stops []int
		foot  int
		e     api.Errno
	}{{nil, 2, api.OK}, {[]int{}, 2, api.OK}, {[]int{1}, 3, api.OK}, {[]int{1, 4}, 3, api.OK}, {[]int{1, 2, 4}, 0, api.ErrNone}, {[]int{1, 2, 3, 4, 5}, 0, api.ErrNone}} {
		if foot, e := shafts.Falls(s, x.stops); foot != x.foot || e != x.e {
			t.Errorf("%d: Falls = %d, %d", n, foot, e)
		}
	}
	// A foot that must not stand unlined at all is the first one to fall with.
	s.Rocks[1].Stand = 0
	if foot, e := shafts.Falls(s, []int{1, 2, 3, 4, 5}); foot != 1 || e != api.OK {
		t.Errorf("Falls = %d, %d", foot, e)
	}
}

func TestP2_4Good(t *testing.T) {
	plan := 0
	eachShaft(4, func(s api.Shaft, all [][]int) {
		for _, stops := range stopsOf(len(s.Feet)) {
			want := slices.ContainsFunc(all, func(plan []int) bool { return slices.Equal(plan, stops) })
			if want {
				plan++
			}
			if is, e := shafts.Good(s, stops); is != want || e != api.OK {
				t.Errorf("Good(%v, %v) = %v, %d", s, stops, is, e)
			}
		}
		for _, list := range notStops(len(s.Feet)) {
			if is, e := shafts.Good(s, list); is || e != api.OK {
				t.Errorf("Good(%v, %v) = %v, %d", s, list, is, e)
			}
		}
	})
	if plan == 0 {
		t.Error("no list was a plan")
	}
	// Feet above the last stop's foot that are lined do not make up for it.
	if good(shaftT(), []int{1, 3}) || !good(shaftT(), []int{1, 2, 3, 4}) || !good(api.Shaft{}, nil) || !good(api.Shaft{}, []int{}) {
		t.Error("Good of the ends")
	}
}

func TestP2_5Cost(t *testing.T) {
	eachShaft(5, func(s api.Shaft, all [][]int) {
		for _, stops := range stopsOf(len(s.Feet)) {
			want := dig(s, stops)
			is := want.fall < 0 && want.rests && want.bare == 0
			pence, hours, e := shafts.Cost(s, stops)
			if is && (pence != want.pence || hours != want.hours || e != api.OK) {
				t.Errorf("Cost(%v, %v) = %d, %d, %d, not %v", s, stops, pence, hours, e, want)
			}
			if !is && (pence != 0 || hours != 0 || e != api.ErrArg) {
				t.Errorf("Cost(%v, %v) = %d, %d, %d", s, stops, pence, hours, e)
			}
		}
		for _, list := range notStops(len(s.Feet)) {
			if pence, hours, e := shafts.Cost(s, list); pence != 0 || hours != 0 || e != api.ErrArg {
				t.Errorf("Cost(%v, %v) = %d, %d, %d", s, list, pence, hours, e)
			}
		}
	})
}

func TestP2_6FewestP2_7Plan(t *testing.T) {
	several, none := 0, 0
	eachShaft(6, func(s api.Shaft, all [][]int) {
		fewest, e := shafts.Fewest(s)
		plan, f := shafts.Plan(s)
		if len(all) == 0 {
			none++
			if fewest != 0 || e != api.ErrNone || len(plan) > 0 || f != api.ErrNone {
				t.Errorf("%v: Fewest = %d, %d; Plan = %v, %d", s, fewest, e, plan, f)
			}
			return
		}
		// The least list is first, and a stable sort leaves it first of its length.
		slices.SortStableFunc(all, func(a, b []int) int { return len(a) - len(b) })
		if len(all) > 1 && len(all[0]) == len(all[1]) {
			several++
		}
		if fewest != len(all[0]) || e != api.OK || !slices.Equal(plan, all[0]) || f != api.OK {
			t.Errorf("%v: Fewest = %d, %d; Plan = %v, %d, not %v", s, fewest, e, plan, f, all[0])
		}
	})
	if several == 0 || none == 0 {
		t.Errorf("not all was tried: %d, %d", several, none)
	}
	// With no feet there is the plan without stops.
	fewest, e := shafts.Fewest(api.Shaft{})
	plan, f := shafts.Plan(api.Shaft{})
	if fewest != 0 || e != api.OK || len(plan) > 0 || f != api.OK {
		t.Errorf("no feet: Fewest = %d, %d; Plan = %v, %d", fewest, e, plan, f)
	}
	// Twelve feet of which none may stand with another one.
	s := widest()
	s.Rocks[3].Stand = 1
	if plan, e := shafts.Plan(s); !slices.Equal(plan, []int{1, 2, 3, 4, 5, 6, 7, 8, 9, 10, 11, 12}) || e != api.OK {
		t.Errorf("Plan = %v, %d", plan, e)
	}
	// Of several with as few stops the least one, not the cheapest one.
	s.Rocks[3].Stand = 6
	if plan, e := shafts.Plan(first(s, 8)); !slices.Equal(plan, []int{2, 8}) || e != api.OK {
		t.Errorf("Plan = %v, %d", plan, e)
	}
}

func TestP2_8CheapP2_9Cheapest(t *testing.T) {
	more := 0
	eachShaft(8, func(s api.Shaft, all [][]int) {
		cheap, e := shafts.Cheap(s)
		plan, f := shafts.Cheapest(s)
		want := cheapOf(s, all)
		if want < 0 {
			if cheap != 0 || e != api.ErrNone || len(plan) > 0 || f != api.ErrNone {
				t.Errorf("%v: Cheap = %d, %d; Cheapest = %v, %d", s, cheap, e, plan, f)
			}
			return
		}
		is := slices.ContainsFunc(all, func(some []int) bool { return slices.Equal(some, plan) })
		if cheap != want || e != api.OK || !is || dig(s, plan).pence != want || f != api.OK {
			t.Errorf("%v: Cheap = %d, %d; Cheapest = %v, %d, not %d", s, cheap, e, plan, f, want)
		}
		if fewest, _ := shafts.Fewest(s); len(plan) > fewest {
			more++
		}
	})
	if more == 0 {
		t.Error("each cheapest plan had the fewest stops")
	}
	cheap, e := shafts.Cheap(api.Shaft{})
	plan, f := shafts.Cheapest(api.Shaft{})
	if cheap != 0 || e != api.OK || len(plan) > 0 || f != api.OK {
		t.Errorf("no feet: Cheap = %d, %d; Cheapest = %v, %d", cheap, e, plan, f)
	}
}

func TestP2_10Within(t *testing.T) {
	dearer := 0
	eachShaft(10, func(s api.Shaft, all [][]int) {
		for _, hours := range []int{math.MinInt, -1, 0, 1, 2, 3, 5, 8, 10, 12, 14, 16, 18, 20, 23, 26, 30, 35, 40, 60, 108, 116, 117, 215, 216, 217, math.MaxInt} {
			want := -1
			for _, plan := range all {
				if o := dig(s, plan); o.hours <= hours && (want < 0 || o.pence < want) {
					want = o.pence
				}
			}
			pence, e := shafts.Within(s, hours)
			if want < 0 && (pence != 0 || e != api.ErrNone) || want >= 0 && (pence != want || e != api.OK) {
				t.Errorf("Within(%v, %d) = %d, %d, not %d", s, hours, pence, e, want)
			}
			if want > cheapOf(s, all) {
				dearer++
			}
		}
	})
	if dearer == 0 {
		t.Error("no plan within some hours was dearer")
	}
	for n, want := range []api.Errno{api.ErrNone, api.OK, api.OK} {
		if pence, e := shafts.Within(api.Shaft{}, n-1); pence != 0 || e != want {
			t.Errorf("no feet: Within %d = %d, %d", n-1, pence, e)
		}
	}
}

func TestP2_11Deep(t *testing.T) {
	gaps := 0
	eachShaft(11, func(s api.Shaft, all [][]int) {
		cheaps := make([]int, 0, len(s.Feet)+1)
		for feet := range len(s.Feet) + 1 {
			cheaps = append(cheaps, cheapOf(first(s, feet), plans(first(s, feet))))
		}
		for _, pence := range append([]int{0, 1, 5, 20, 77, 300, 1000, 9998, api.MaxShaftMoney}, cheaps...) {
			want := 0
			for feet, cheap := range cheaps {
				if cheap >= 0 && cheap <= pence {
					want = feet
				}
			}
			if slices.ContainsFunc(cheaps[:want], func(cheap int) bool { return cheap < 0 || cheap > pence }) {
				gaps++
			}
			if pence < 0 {
				continue // there is no plan for so many feet
			}
			if d, e := shafts.Deep(s, pence); d != want || e != api.OK {
				t.Errorf("Deep(%v, %d) = %d, %d, not %d", s, pence, d, e, want)
			}
		}
		for _, pence := range []int{-1, api.MaxShaftMoney + 1, math.MinInt, math.MaxInt} {
			if d, e := shafts.Deep(s, pence); d != 0 || e != api.ErrArg {
				t.Errorf("Deep(%v, %d) = %d, %d", s, pence, d, e)
			}
		}
	})
	if gaps == 0 {
		t.Error("no depth was reached below one that was not")
	}
}

func TestP2_12Next(t *testing.T) {
	less, none := 0, 0
	eachShaft(12, func(s api.Shaft, all [][]int) {
		for n := range s.Rocks {
			d, e := shafts.Next(s, n)
			if len(s.Feet) == api.MaxShaftFeet {
				if d != 0 || e != api.ErrMany {
					t.Errorf("Next(%v, %d) = %d, %d", s, n, d, e)
				}
				continue
			}
			more := behind(s, n)
			without, with := cheapOf(s, all), cheapOf(more, plans(more))
			if without < 0 || with < 0 {
				none++
				if d != 0 || e != api.ErrNone {
					t.Errorf("Next(%v, %d) = %d, %d", s, n, d, e)
				}
				continue
			}
			if with < without {
				less++
			}
			if d != with-without || e != api.OK {
				t.Errorf("Next(%v, %d) = %d, %d, not %d", s, n, d, e, with-without)
			}
		}
		for _, n := range []int{-1, len(s.Rocks), math.MinInt, math.MaxInt} {
			if d, e := shafts.Next(s, n); d != 0 || e != api.ErrArg {
				t.Errorf("Next(%v, %d) = %d, %d", s, n, d, e)
			}
		}
	})
	if less == 0 || none == 0 {
		t.Errorf("not all was tried: %d, %d", less, none)
	}
	// ErrArg is named before ErrMany, and ErrMany before ErrNone.
	s := widest()
	s.Rocks[3].Seat = api.ShaftNone
	_, e := shafts.Next(s, 4)
	_, f := shafts.Next(s, 3)
	if e != api.ErrArg || f != api.ErrMany {
		t.Errorf("Next: %d, %d", e, f)
	}
	// No plan without the foot, but one with it: none all the same.
	s.Feet = []int{3}
	if _, e := shafts.Next(s, 0); e != api.ErrNone || len(plans(behind(s, 0))) == 0 {
		t.Errorf("Next: %d", e)
	}
}

func TestNilAndEmpty(t *testing.T) {
	a, b := api.Shaft{Rest: 2}, api.Shaft{Rocks: []api.ShaftRock{}, Feet: []int{}, Rest: 2}
	for n := range 3 {
		l, zero := errors(a, n-1, nil)
		m, empty := errors(b, n-1, []int{})
		if !slices.Equal(l, m) || zero != empty {
			t.Errorf("%v, %v; %v, %v", l, zero, m, empty)
		}
	}
}

func TestMemory(t *testing.T) {
	r := rand.New(rand.NewSource(4))
	for range 300 {
		s := someShaft(r, 8)
		// The memory behind the feet is the caller's, too.
		behind := append(append(make([]int, 0, 20), s.Feet...), 77, 78, 79)
		s.Feet = behind[:len(s.Feet)]
		stops := someStops(r, len(s.Feet))
		kept, list := clone(s), slices.Clone(stops)
		errors(s, r.Intn(4), stops)
		plan, _ := shafts.Plan(s)
		cheapest, _ := shafts.Cheapest(s)
		want := slices.Clone(cheapest)
		for n := range plan {
			plan[n] = -5
		}
		if !same(s, kept) || !slices.Equal(stops, list) || !slices.Equal(behind[len(s.Feet):], []int{77, 78, 79}) {
			t.Fatalf("%v, %v: changed to %v, %v, %v", kept, list, s, stops, behind)
		}
		if again, _ := shafts.Cheapest(s); !slices.Equal(cheapest, want) || !slices.Equal(again, want) {
			t.Fatalf("%v: Cheapest = %v, %v, not %v", s, cheapest, again, want)
		}
	}
}

func TestP1Shafts(t *testing.T) {
	r := rand.New(rand.NewSource(1))
	odd := []int{math.MinInt, math.MinInt + 1, -2, -1, 0, 1, 2, 3, 4, 9, 12, 13, 99, 100, 9999, 10000, math.MaxInt - 1, math.MaxInt}
	pick := func() int { return odd[r.Intn(len(odd))] }
	for range 3000 {
		s := someShaft(r, 14)
		for range r.Intn(3) {
			if n := r.Intn(len(s.Rocks) + 1); n < len(s.Rocks) {
				s.Rocks[n] = rock(pick(), pick(), pick(), pick())
			}
			if len(s.Feet) > 0 {
				s.Feet[r.Intn(len(s.Feet))] = pick()
			}
		}
		if r.Intn(4) == 0 {
			s.Deep, s.Haul, s.Rest = pick(), pick(), pick()
		}
		var stops []int
		for range r.Intn(16) {
			stops = append(stops, pick())
		}
		shafts.Check(s)
		errors(s, pick(), stops)
	}
}
