package hours_test

import (
	"math"
	"math/rand"
	"slices"
	"testing"

	"steening/api"
	"steening/hours"
)

// invalid returns rosters that are not valid, each for one reason.
func invalid() map[string]api.HourRoster {
	list := map[string]api.HourRoster{
		"9 hours":          roster(slices.Repeat(list(1), 9)),
		"many hours":       roster(slices.Repeat(list(1), 1000)),
		"7 streets":        roster(list(6, 6), append(same6(street(0, 0, 1, 1)), street(0, 0, 1, 1))...),
		"many streets":     roster(list(6, 6), slices.Repeat(same6(street(0, 0, 1, 1)), 100)...),
		"no hours, street": roster(nil, street(-1, 0, 0, 0)),
		"no hours, none":   roster(nil, street(-1, -1, -1, 0)),
	}
	for name, change := range map[string]func(r *api.HourRoster){
		"room -1":      func(r *api.HourRoster) { r.Room[0] = -1 },
		"room 7":       func(r *api.HourRoster) { r.Room[3] = 7 },
		"room least":   func(r *api.HourRoster) { r.Room[1] = math.MinInt },
		"room most":    func(r *api.HourRoster) { r.Room[2] = math.MaxInt },
		"an hour less": func(r *api.HourRoster) { r.Room = r.Room[:3] },
		"no hours":     func(r *api.HourRoster) { r.Room = nil },
		"has -2":       func(r *api.HourRoster) { r.Streets[0].Has = -2 },
		"has 4":        func(r *api.HourRoster) { r.Streets[3].Has = 4 },
		"has least":    func(r *api.HourRoster) { r.Streets[1].Has = math.MinInt },
		"has most":     func(r *api.HourRoster) { r.Streets[1].Has = math.MaxInt },
		"from -1":      func(r *api.HourRoster) { r.Streets[0].From = -1 },
		"from after":   func(r *api.HourRoster) { r.Streets[3].From = 3 },
		"from 4 to 4":  func(r *api.HourRoster) { r.Streets[3].From, r.Streets[3].To = 4, 4 },
		"from least":   func(r *api.HourRoster) { r.Streets[1].From = math.MinInt },
		"from most":    func(r *api.HourRoster) { r.Streets[1].From = math.MaxInt },
		"to -1":        func(r *api.HourRoster) { r.Streets[2].To = -1 },
		"to 4":         func(r *api.HourRoster) { r.Streets[2].To = 4 },
		"to before":    func(r *api.HourRoster) { r.Streets[3].To = 0 },
		"to least":     func(r *api.HourRoster) { r.Streets[1].To = math.MinInt },
		"to most":      func(r *api.HourRoster) { r.Streets[1].To = math.MaxInt },
		"-1 to -1":     func(r *api.HourRoster) { r.Streets[2].From, r.Streets[2].To = -1, -1 },
		"cost -1":      func(r *api.HourRoster) { r.Streets[0].Cost = -1 },
		"cost 10":      func(r *api.HourRoster) { r.Streets[3].Cost = 10 },
		"cost least":   func(r *api.HourRoster) { r.Streets[1].Cost = math.MinInt },
		"cost most":    func(r *api.HourRoster) { r.Streets[1].Cost = math.MaxInt },
	} {
		list[name] = with(rosterR(), change)
	}
	return list
}

// asked is what the functions are asked for.
type asked struct {
	hours        []int
	street, hour int
}

// errors returns what each function but Check returns as an error, and reports
// whether each result beside an error is its zero value.
func errors(r api.HourRoster, a asked) (list []api.Errno, zero bool) {
	zero = true
	add := func(e api.Errno, isZero bool) {
		list = append(list, e)
		zero = zero && (e == api.OK || isZero)
	}
	good, e := hours.Good(r, a.hours)
	add(e, !good)
	cost, e := hours.Cost(r, a.hours)
	add(e, cost == 0)
	moved, e := hours.Moved(r, a.hours)
	add(e, len(moved) == 0)
	least, e := hours.Least(r)
	add(e, least == 0)
	first, e := hours.Roster(r)
	add(e, len(first) == 0)
	bound, e := hours.Bound(r, a.street)
	add(e, bound == 0)
	lack, e := hours.Lack(r)
	add(e, lack == api.Span{})
	far, e := hours.Far(r)
	add(e, far == 0)
	fewest, e := hours.Fewest(r)
	add(e, fewest == 0)
	fair, e := hours.Fair(r)
	add(e, len(fair) == 0)
	swap, e := hours.Swap(r, a.hours)
	add(e, swap == api.HourPair{})
	give, e := hours.Give(r, a.hour)
	add(e, give == 0)
	return list, zero
}

// areAll reports whether all errors are the same one.
func areAll(list []api.Errno, e api.Errno) bool {
	return !slices.ContainsFunc(list, func(other api.Errno) bool { return other != e })
}

func TestP8_1Check(t *testing.T) {
	for n, r := range plain() {
		if e := hours.Check(r); e != api.OK {
			t.Errorf("%d: Check = %d", n, e)
		}
	}
	for name, r := range invalid() {
		if e := hours.Check(r); e != api.ErrHour {
			t.Errorf("%s: Check = %d", name, e)
		}
		// ErrHour is named first, whatever else is wrong.
		for _, n := range list(0, 1, -1, 3, 4, 6, 8, math.MinInt, math.MaxInt) {
			for _, l := range [][]int{nil, list(n), list(1, 0, 1, 2), list(n, n, n, n), slices.Repeat(list(n), 600)} {
				list, zero := errors(r, asked{l, n, n})
				if !areAll(list, api.ErrHour) || !zero {
					t.Errorf("%s: %d, %v: errors %v, zero %v", name, n, l, list, zero)
				}
			}
		}
	}
}

func TestErrors(t *testing.T) {
	for name, x := range map[string]struct {
		r    api.HourRoster
		a    asked
		want []api.Errno
	}{
		"R":             {rosterR(), asked{list(0, 1, 1, 2), 0, 0}, []api.Errno{0, 0, 0, 0, 0, 0, 3, 0, 0, 0, 0, 0}},
		"R, first":      {rosterR(), asked{list(1, 0, 1, 2), 3, 3}, []api.Errno{0, 0, 0, 0, 0, 0, 3, 0, 0, 0, 3, 0}},
		"not new":       {rosterR(), asked{list(0, 0, 1, 2), 4, 4}, []api.Errno{0, 1, 1, 0, 0, 1, 3, 0, 0, 0, 1, 1}},
		"below":         {rosterR(), asked{list(1, 0, 1, -1), -1, -1}, []api.Errno{0, 1, 1, 0, 0, 1, 3, 0, 0, 0, 1, 1}},
		"least":         {rosterR(), asked{nil, math.MinInt, math.MinInt}, []api.Errno{0, 1, 1, 0, 0, 1, 3, 0, 0, 0, 1, 1}},
		"most":          {rosterR(), asked{list(1, 0, 1), math.MaxInt, math.MaxInt}, []api.Errno{0, 1, 1, 0, 0, 1, 3, 0, 0, 0, 1, 1}},
		"full":          {widest(), asked{list(7, 7, 7, 7, 7, 7), 5, 7}, []api.Errno{0, 0, 0, 0, 0, 0, 3, 0, 0, 0, 3, 2}},
		"no room":       {roster(list(0), street(0, 0, 0, 1)), asked{list(0), 0, 0}, []api.Errno{0, 1, 1, 3, 3, 3, 0, 3, 3, 3, 1, 3}},
		"no room, args": {roster(list(0), street(0, 0, 0, 1)), asked{list(0), 1, 1}, []api.Errno{0, 1, 1, 3, 3, 1, 0, 3, 3, 3, 1, 1}},
		// There is no new roster, but ErrMany is named before ErrNone.
		"many, none": {roster(list(0, 6), street(0, 0, 0, 1)), asked{list(0), 0, 1}, []api.Errno{0, 1, 1, 3, 3, 3, 0, 3, 3, 3, 1, 2}},
		"no streets": {roster(list(0, 5)), asked{nil, 0, 1}, []api.Errno{0, 0, 0, 0, 0, 1, 3, 0, 0, 0, 3, 0}},
		"no hours":   {api.HourRoster{}, asked{nil, 0, 0}, []api.Errno{0, 0, 0, 0, 0, 1, 3, 0, 0, 0, 3, 1}},
	} {
		if list, zero := errors(x.r, x.a); !slices.Equal(list, x.want) || !zero {
			t.Errorf("%s: errors %v, zero %v", name, list, zero)
		}
	}
}

func TestExamples(t *testing.T) {
	r, q := rosterR(), rosterQ()
	if !isGood(r, list(1, 0, 1, 2)) || isGood(r, list(0, 0, 1, 2)) {
		t.Error("Good of R")
	}
	cost, e := hours.Cost(r, list(1, 0, 1, 2))
	l, f := hours.Moved(r, list(1, 0, 1, 2))
	if cost != 2 || !slices.Equal(l, list(0)) || e|f != api.OK {
		t.Errorf("Cost = %d, %d; Moved = %v, %d", cost, e, l, f)
	}
	for n, want := range list(api.Never, api.Surely, api.Surely) {
		if bound, e := hours.Bound(r, n); bound != want || e != api.OK {
			t.Errorf("Bound of %d = %d, %d", n, bound, e)
		}
	}
	for hour, want := range list(2, 0) {
		if give, e := hours.Give(r, hour); give != want || e != api.OK {
			t.Errorf("Give of %d = %d, %d", hour, give, e)
		}
	}
	for _, x := range []struct {
		r                  api.HourRoster
		least, far, fewest int
		first, fair        []int
	}{{r, 2, 1, 1, list(1, 0, 1, 2), list(1, 0, 1, 2)}, {q, 7, 2, 3, list(1, 1, 3, 2), list(1, 1, 3, 2)}} {
		least, e := hours.Least(x.r)
		far, f := hours.Far(x.r)
		fewest, g := hours.Fewest(x.r)
		first, h := hours.Roster(x.r)
		fair, i := hours.Fair(x.r)
		if least != x.least || far != x.far || fewest != x.fewest || !slices.Equal(first, x.first) || !slices.Equal(fair, x.fair) || e|f|g|h|i != api.OK {
			t.Errorf("%v: Least = %d, %d; Far = %d, %d; Fewest = %d, %d; Roster = %v, %d; Fair = %v, %d", x.r, least, e, far, f, fewest, g, first, h, fair, i)
		}
	}
	if s, e := hours.Lack(q); s != span(0, 0) || e != api.ErrNone {
		t.Errorf("Lack of Q = %v, %d", s, e)
	}
	if p, e := hours.Swap(r, list(0, 1, 1, 2)); p != pair(0, 1) || e != api.OK {
		t.Errorf("Swap = %v, %d", p, e)
	}
	if p, e := hours.Swap(r, list(1, 0, 1, 2)); p != pair(0, 0) || e != api.ErrNone {
		t.Errorf("Swap = %v, %d", p, e)
	}
}

func TestP8_2Good(t *testing.T) {
	some, none := 0, 0
	eachRoster(2, 4000, func(r *rand.Rand, h api.HourRoster) {
		all := newOf(h)
		for range 20 {
			var l []int
			for range h.Streets {
				l = append(l, r.Intn(len(h.Room)))
			}
			if len(all) > 0 && r.Intn(2) == 0 {
				l = slices.Clone(all[r.Intn(len(all))])
			}
			if r.Intn(10) == 0 {
				l = append(l, anyNumber(r))
			}
			if len(l) > 0 && r.Intn(3) == 0 {
				l[r.Intn(len(l))] = anyNumber(r)
			}
			want := slices.ContainsFunc(all, func(other []int) bool { return slices.Equal(l, other) })
			if want {
				some++
			} else {
				none++
			}
			if good, e := hours.Good(h, l); good != want || e != api.OK {
				t.Errorf("Good(%v, %v) = %v, %d", h, l, good, e)
			}
		}
	})
	if some < 1000 || none < 1000 {
		t.Errorf("not all was tried: %d, %d", some, none)
	}
	three := roster(list(1, 2, 0), street(0, 0, 1, 1), street(0, 1, 1, 1), street(2, 0, 2, 1))
	for _, x := range []struct {
		r    api.HourRoster
		l    []int
		want bool
	}{
		{three, list(0, 1, 1), true},
		{three, list(1, 1, 0), true},
		{three, list(1, 1, 1), false},
		{three, list(0, 1, 0), false},
		{three, list(0, 1, 2), false},
		// Who has an hour until now may not have it any more.
		{three, list(0, 0, 1), false},
		{three, list(0, 1), false},
		{three, list(0, 1, 1, 1), false},
		{three, list(0, 1, 3), false},
		{three, list(-1, 1, 1), false},
		{three, list(0, 1, math.MaxInt), false},
		{three, list(math.MinInt, 1, 1), false},
		{three, nil, false},
		{three, slices.Repeat(list(1), 1000), false},
		{widest(), list(3, 3, 3, 3, 3, 3), true},
		{widest(), list(0, 7, 0, 7, 0, 7), true},
		{widest(), list(0, 7, 0, 7, 0, 8), false},
		{roster(list(5, 6), same6(street(0, 0, 1, 0))...), list(0, 0, 0, 0, 0, 0), false},
		{roster(list(5, 6), same6(street(0, 0, 1, 0))...), list(1, 1, 1, 1, 1, 1), true},
		{roster(list(3)), nil, true},
		{roster(list(3)), list(0), false},
		{api.HourRoster{}, nil, true},
		{api.HourRoster{}, list(0), false},
		{api.HourRoster{}, list(-1), false},
	} {
		if good, e := hours.Good(x.r, x.l); good != x.want || e != api.OK {
			t.Errorf("Good(%v, %v) = %v, %d", x.r, x.l, good, e)
		}
	}
}

func TestP8_3CostP8_4Moved(t *testing.T) {
	dear, stay := 0, 0
	eachNew(3, 3000, func(r *rand.Rand, h api.HourRoster, all [][]int) {
		for range 10 {
			l := all[r.Intn(len(all))]
			var want []int
			for n, move := range movesOf(h, l) {
				if move != 0 {
					want = append(want, n)
				}
			}
			cost, e := hours.Cost(h, l)
			moved, f := hours.Moved(h, l)
			if cost != price(h, l) || !slices.Equal(moved, want) || e|f != api.OK {
				t.Errorf("%v: Cost of %v = %d, %d, Moved = %v, %d", h, l, cost, e, moved, f)
			}
			if cost > 30 {
				dear++
			}
			if len(want) > 0 && cost == 0 {
				stay++
			}
		}
	})
	if dear < 300 || stay < 100 {
		t.Errorf("not all was tried: %d, %d", dear, stay)
	}
	two := roster(list(2, 2, 2), street(-1, 0, 2, 9), street(1, 0, 2, 4), street(2, 0, 2, 0))
	for _, x := range []struct {
		r     api.HourRoster
		l     []int
		cost  int
		moved []int
	}{
		// Who had no hour is not moved, and a street that costs nothing is.
		{two, list(2, 1, 2), 0, nil},
		{two, list(2, 0, 0), 4, list(1, 2)},
		{two, list(2, 2, 1), 4, list(1, 2)},
		{two, list(2, 1, 0), 0, list(2)},
		{tight(), list(7, 7, 7, 7, 7, 7), 378, list(0, 1, 2, 3, 4, 5)},
		// A list that is no new roster has no cost.
		{tight(), list(7, 7, 7, 7, 7, 0), -1, nil},
		{two, list(0, 0, 0), -1, nil},
		{widest(), list(7, 7, 7, 7, 7, 7), 0, nil},
		{widest(), list(0, 7, 7, 3, 7, 0), 162, list(0, 3, 5)},
		{roster(list(3)), nil, 0, nil},
		{api.HourRoster{}, nil, 0, nil},
	} {
		want := api.OK
		if x.cost < 0 {
			x.cost, want = 0, api.ErrArg
		}
		cost, e := hours.Cost(x.r, x.l)
		moved, f := hours.Moved(x.r, x.l)
		if cost != x.cost || !slices.Equal(moved, x.moved) || e != want || f != want {
			t.Errorf("%v: Cost of %v = %d, %d, Moved = %v, %d", x.r, x.l, cost, e, moved, f)
		}
	}
}

// isNone fails unless a function that has no result for a roster says so.
func isNone(t *testing.T, name string, r api.HourRoster, isZero bool, e api.Errno) {
	t.Helper()
	if !isZero || e != api.ErrNone {
		t.Errorf("%s(%v) is not ErrNone alone: %d", name, r, e)
	}
}

// eachWithout calls a function with many rosters of which there is no new one.
func eachWithout(seed int64, many int, call func(r *rand.Rand, h api.HourRoster)) {
	eachRoster(seed, many, func(r *rand.Rand, h api.HourRoster) {
		if len(newOf(h)) == 0 {
			call(r, h)
		}
	})
}

func TestP8_5LeastP8_6Roster(t *testing.T) {
	several, dear := 0, 0
	none := eachNew(5, 6000, func(_ *rand.Rand, h api.HourRoster, all [][]int) {
		best, want := bests(h, all, price)
		least, e := hours.Least(h)
		first, f := hours.Roster(h)
		if least != want || !slices.Equal(first, best[0]) || e|f != api.OK {
			t.Errorf("%v: Least = %d, %d, not %d; Roster = %v, %d, not %v", h, least, e, want, first, f, best[0])
		}
		if len(best) > 1 {
			several++
		}
		if want > 5 {
			dear++
		}
	})
	if several < 300 || dear < 300 || none < 300 {
		t.Errorf("not all was tried: %d, %d, %d", several, dear, none)
	}
	eachWithout(6, 1000, func(_ *rand.Rand, h api.HourRoster) {
		least, e := hours.Least(h)
		isNone(t, "Least", h, least == 0, e)
		first, e := hours.Roster(h)
		isNone(t, "Roster", h, len(first) == 0, e)
	})
	for _, x := range []struct {
		r     api.HourRoster
		least int
		first []int
	}{
		{tight(), 378, list(7, 7, 7, 7, 7, 7)},
		{widest(), 0, list(7, 7, 7, 7, 7, 7)},
		// Of several the one that comes first.
		{roster(list(1, 1, 1, 1, 1, 1), same6(street(2, 0, 5, 1))...), 9, list(0, 1, 2, 3, 4, 5)},
		{roster(list(1, 1), street(0, 0, 1, 0), street(0, 0, 1, 0)), 0, list(0, 1)},
		{roster(list(1, 1), street(1, 0, 1, 0), street(1, 0, 1, 2)), 0, list(0, 1)},
		{roster(list(3, 3), street(-1, 0, 1, 5), street(-1, 1, 1, 5)), 0, list(0, 1)},
		// The one that costs the least, even if another one moves fewer.
		{roster(list(1, 1, 1), street(0, 0, 2, 9), street(0, 0, 1, 9), street(1, 1, 2, 1)), 10, list(0, 1, 2)},
		{roster(list(1, 0, 0, 1), street(0, 0, 3, 9), street(0, 0, 3, 8)), 24, list(0, 3)},
		{roster(list(1, 1), street(0, 1, 1, 9), street(1, 0, 0, 9)), 18, list(1, 0)},
		{roster(list(3)), 0, nil},
		{api.HourRoster{}, 0, nil},
	} {
		least, e := hours.Least(x.r)
		first, f := hours.Roster(x.r)
		if least != x.least || !slices.Equal(first, x.first) || e|f != api.OK {
			t.Errorf("%v: Least = %d, %d; Roster = %v, %d", x.r, least, e, first, f)
		}
	}
}

func TestP8_7Bound(t *testing.T) {
	var tried [4]int
	eachNew(7, 4000, func(_ *rand.Rand, h api.HourRoster, all [][]int) {
		best, _ := bests(h, all, price)
		for n, s := range h.Streets {
			keeps := 0
			for _, l := range best {
				if l[n] == s.Has {
					keeps++
				}
			}
			want := api.Perhaps
			switch keeps {
			case 0:
				want = api.Never
			case len(best):
				want = api.Surely
			}
			tried[want]++
			if bound, e := hours.Bound(h, n); bound != want || e != api.OK {
				t.Errorf("Bound(%v, %d) = %d, %d, not %d", h, n, bound, e, want)
			}
		}
	})
	if tried[api.Surely] < 300 || tried[api.Never] < 300 || tried[api.Perhaps] < 300 {
		t.Errorf("not all was tried: %v", tried)
	}
	eachWithout(7, 1000, func(_ *rand.Rand, h api.HourRoster) {
		for n := range h.Streets {
			bound, e := hours.Bound(h, n)
			isNone(t, "Bound", h, bound == 0, e)
		}
	})
	for _, x := range []struct {
		r    api.HourRoster
		n    int
		want int
		e    api.Errno
	}{
		{roster(list(1, 1), street(0, 0, 1, 0), street(0, 0, 1, 0)), 0, api.Perhaps, api.OK},
		{roster(list(1, 1), street(0, 0, 1, 0), street(0, 0, 1, 0)), 1, api.Perhaps, api.OK},
		{roster(list(1, 1), street(0, 0, 1, 1), street(0, 0, 1, 0)), 0, api.Surely, api.OK},
		{roster(list(1, 1), street(0, 0, 1, 1), street(0, 0, 1, 0)), 1, api.Never, api.OK},
		// It is surely kept if there is no other hour, whatever that costs.
		{roster(list(1, 1), street(0, 0, 0, 0)), 0, api.Surely, api.OK},
		{roster(list(1, 1), street(0, 0, 1, 0)), 0, api.Perhaps, api.OK},
		// Who had none keeps none, and no more who can't have it now.
		{roster(list(1), street(-1, 0, 0, 9)), 0, api.Never, api.OK},
		{roster(list(6, 6), street(0, 1, 1, 0)), 0, api.Never, api.OK},
		{roster(list(0, 6), street(0, 0, 1, 0)), 0, api.Never, api.OK},
		{roster(list(0), street(-1, 0, 0, 9)), 0, 0, api.ErrNone},
		{roster(list(1), street(-1, 0, 0, 9)), 1, 0, api.ErrArg},
		{roster(list(1)), 0, 0, api.ErrArg},
	} {
		if bound, e := hours.Bound(x.r, x.n); bound != x.want || e != x.e {
			t.Errorf("Bound(%v, %d) = %d, %d", x.r, x.n, bound, e)
		}
	}
}

func TestP8_8Lack(t *testing.T) {
	several, none, wide := 0, 0, 0
	eachRoster(8, 6000, func(_ *rand.Rand, h api.HourRoster) {
		spans := lacking(h)
		lack, e := hours.Lack(h)
		if len(spans) == 0 {
			none++
			isNone(t, "Lack", h, lack == api.Span{}, e)
			return
		}
		if len(spans) > 1 {
			several++
		}
		if spans[0].Low < spans[0].High {
			wide++
		}
		if lack != spans[0] || e != api.OK {
			t.Errorf("Lack(%v) = %v, %d, not %v", h, lack, e, spans[0])
		}
	})
	if several < 300 || none < 300 || wide < 100 {
		t.Errorf("not all was tried: %d, %d, %d", several, none, wide)
	}
	one := street(-1, 1, 1, 0)
	for _, x := range []struct {
		r    api.HourRoster
		want api.Span
		e    api.Errno
	}{
		{roster(list(0), street(0, 0, 0, 0)), span(0, 0), api.OK},
		{roster(list(5), same6(street(0, 0, 0, 0))...), span(0, 0), api.OK},
		{roster(list(6), same6(street(0, 0, 0, 0))...), api.Span{}, api.ErrNone},
		// The least High comes first, and then the greatest Low.
		{roster(list(0, 0, 0), street(-1, 0, 2, 0), one), span(1, 1), api.OK},
		{roster(list(0, 0, 0), street(-1, 2, 2, 0), street(-1, 0, 1, 0)), span(0, 1), api.OK},
		{roster(list(0, 0, 0), street(-1, 0, 1, 0), one), span(1, 1), api.OK},
		{roster(list(0, 1, 0), street(-1, 0, 1, 0), one), span(0, 1), api.OK},
		{roster(list(0, 1, 0), street(-1, 0, 2, 0), one), span(0, 2), api.OK},
		{roster(list(0, 1, 0), street(-1, 1, 2, 0), one), span(1, 2), api.OK},
		{roster(list(0, 1, 1), street(-1, 0, 2, 0), one), api.Span{}, api.ErrNone},
		// A street that can have an hour outside of the span does not count.
		{roster(list(1, 1), street(0, 0, 0, 0), street(0, 0, 1, 0)), api.Span{}, api.ErrNone},
		{roster(list(1, 1), street(0, 0, 0, 0), street(0, 0, 1, 0), street(0, 0, 1, 0)), span(0, 1), api.OK},
		{roster(slices.Repeat(list(0), 8), street(7, 0, 7, 0)), span(0, 7), api.OK},
		{roster(slices.Repeat(list(0), 8)), api.Span{}, api.ErrNone},
		{api.HourRoster{}, api.Span{}, api.ErrNone},
	} {
		if lack, e := hours.Lack(x.r); lack != x.want || e != x.e {
			t.Errorf("Lack(%v) = %v, %d", x.r, lack, e)
		}
	}
}

// tryLeast fails unless a function returns the least number that a measure
// finds among all new rosters, or ErrNone if there are none. It returns how
// often it was which number.
func tryLeast(t *testing.T, name string, seed int64, call func(r api.HourRoster) (int, api.Errno), measure func(r api.HourRoster, l []int) int) (tried [8]int) {
	t.Helper()
	none := eachNew(seed, 8000, func(_ *rand.Rand, h api.HourRoster, all [][]int) {
		_, want := bests(h, all, measure)
		if number, e := call(h); number != want || e != api.OK {
			t.Errorf("%s(%v) = %d, %d, not %d", name, h, number, e, want)
		}
		tried[want]++
	})
	if none < 300 {
		t.Errorf("only %d rosters of which there is no new one were tried", none)
	}
	eachWithout(seed, 1000, func(_ *rand.Rand, h api.HourRoster) {
		number, e := call(h)
		isNone(t, name, h, number == 0, e)
	})
	return tried
}

func TestP8_9Far(t *testing.T) {
	tried := tryLeast(t, "Far", 9, hours.Far, farthest)
	for far, times := range tried {
		if times < 1 || far < 3 && times < 100 {
			t.Errorf("not all was tried: %v", tried)
		}
	}
	for _, x := range []struct {
		r    api.HourRoster
		want int
	}{
		{tight(), 7},
		{widest(), 0},
		// The cost does not matter.
		{roster(list(1, 1, 1), street(0, 0, 2, 0), street(0, 0, 2, 9), street(1, 0, 2, 9)), 1},
		{roster(list(0, 1, 1), street(0, 0, 2, 0), street(0, 0, 2, 0)), 2},
		{roster(list(0, 0, 1), street(-1, 0, 2, 9)), 0},
		{roster(list(1, 0, 1), street(-1, 0, 2, 9), street(0, 0, 2, 9)), 0},
		{roster(list(3)), 0},
		{api.HourRoster{}, 0},
	} {
		if far, e := hours.Far(x.r); far != x.want || e != api.OK {
			t.Errorf("Far(%v) = %d, %d", x.r, far, e)
		}
	}
}

func TestP8_10Fewest(t *testing.T) {
	tried := tryLeast(t, "Fewest", 10, hours.Fewest, moved)
	for _, times := range tried[:api.MaxHourStreets+1] {
		if times < 2 {
			t.Errorf("not all was tried: %v", tried)
		}
	}
	for _, x := range []struct {
		r    api.HourRoster
		want int
	}{
		{tight(), 6},
		{widest(), 0},
		// Rather one far away and dear than two that are not.
		{roster(list(1, 1, 1), street(0, 0, 2, 9), street(0, 0, 1, 9), street(1, 1, 2, 0)), 1},
		{roster(list(1, 1, 0), street(0, 0, 0, 0), street(0, 0, 1, 0)), 1},
		{roster(list(0, 0, 1), street(-1, 0, 2, 9)), 0},
		{roster(list(1, 1, 1, 1, 1, 1), same6(street(2, 0, 5, 1))...), 5},
		{roster(list(3)), 0},
		{api.HourRoster{}, 0},
	} {
		if fewest, e := hours.Fewest(x.r); fewest != x.want || e != api.OK {
			t.Errorf("Fewest(%v) = %d, %d", x.r, fewest, e)
		}
	}
}

func TestP8_11Fair(t *testing.T) {
	dearer, several := 0, 0
	eachNew(11, 6000, func(_ *rand.Rand, h api.HourRoster, all [][]int) {
		near, _ := bests(h, all, farthest)
		best, cost := bests(h, near, price)
		if fair, e := hours.Fair(h); !slices.Equal(fair, best[0]) || e != api.OK {
			t.Errorf("Fair(%v) = %v, %d, not %v", h, fair, e, best[0])
		}
		if cost > leastOf(h) {
			dearer++
		}
		if len(best) > 1 {
			several++
		}
	})
	if dearer < 50 || several < 300 {
		t.Errorf("not all was tried: %d, %d", dearer, several)
	}
	eachWithout(11, 1000, func(_ *rand.Rand, h api.HourRoster) {
		fair, e := hours.Fair(h)
		isNone(t, "Fair", h, len(fair) == 0, e)
	})
	for _, x := range []struct {
		r    api.HourRoster
		want []int
	}{
		{tight(), list(7, 7, 7, 7, 7, 7)},
		{widest(), list(7, 7, 7, 7, 7, 7)},
		// The cheapest one moves the third street, which costs nothing, by 2.
		{roster(list(1, 1, 1), street(0, 0, 2, 9), street(1, 0, 2, 9), street(0, 0, 2, 0)), list(0, 2, 1)},
		// Of several the one that comes first.
		{roster(list(1, 1), street(0, 0, 1, 4), street(0, 0, 1, 4)), list(0, 1)},
		{roster(list(6, 6, 6), street(-1, 1, 2, 4), street(-1, 0, 1, 4)), list(1, 0)},
		{roster(list(3)), nil},
		{api.HourRoster{}, nil},
	} {
		if fair, e := hours.Fair(x.r); !slices.Equal(fair, x.want) || e != api.OK {
			t.Errorf("Fair(%v) = %v, %d", x.r, fair, e)
		}
	}
}

// exchanged returns a list in which two streets have exchanged their hours.
func exchanged(l []int, a, b int) []int {
	l = slices.Clone(l)
	l[a], l[b] = l[b], l[a]
	return l
}

func TestP8_12Swap(t *testing.T) {
	some, none, several := 0, 0, 0
	eachNew(12, 4000, func(r *rand.Rand, h api.HourRoster, all [][]int) {
		for range 10 {
			l := all[r.Intn(len(all))]
			var pairs []api.HourPair
			for a := range l {
				for b := a + 1; b < len(l); b++ {
					other := exchanged(l, a, b)
					isIt := func(x []int) bool { return slices.Equal(x, other) }
					if price(h, other) < price(h, l) && slices.ContainsFunc(all, isIt) {
						pairs = append(pairs, pair(a, b))
					}
				}
			}
			swap, e := hours.Swap(h, l)
			if len(pairs) == 0 {
				none++
				isNone(t, "Swap", h, swap == api.HourPair{}, e)
				continue
			}
			some++
			if len(pairs) > 1 {
				several++
			}
			if swap != pairs[0] || e != api.OK {
				t.Errorf("Swap(%v, %v) = %v, %d, not %v", h, l, swap, e, pairs[0])
			}
		}
	})
	if some < 500 || none < 500 || several < 300 {
		t.Errorf("not all was tried: %d, %d, %d", some, none, several)
	}
	four := roster(list(1, 1, 1, 1), street(0, 0, 3, 1), street(1, 0, 3, 1), street(2, 0, 3, 1), street(3, 0, 3, 1))
	for _, x := range []struct {
		r    api.HourRoster
		l    []int
		want api.HourPair
		e    api.Errno
	}{
		// The least A, and then the least B.
		{four, list(3, 2, 1, 0), pair(0, 2), api.OK},
		{four, list(0, 3, 2, 1), pair(1, 3), api.OK},
		{four, list(1, 0, 3, 2), pair(0, 1), api.OK},
		{four, list(0, 1, 3, 2), pair(2, 3), api.OK},
		{four, list(0, 1, 2, 3), api.HourPair{}, api.ErrNone},
		{four, list(0, 1, 2, 2), api.HourPair{}, api.ErrArg},
		// It is not bettered if the cost is the same, or it is no new roster.
		{roster(list(1, 1), street(0, 0, 1, 2), street(0, 0, 1, 2)), list(1, 0), api.HourPair{}, api.ErrNone},
		{roster(list(1, 1), street(0, 0, 1, 3), street(0, 0, 1, 2)), list(1, 0), pair(0, 1), api.OK},
		{roster(list(1, 1), street(0, 0, 1, 3), street(1, 0, 0, 9)), list(1, 0), api.HourPair{}, api.ErrNone},
		{roster(list(1, 1), street(0, 1, 1, 3), street(1, 0, 1, 9)), list(1, 0), api.HourPair{}, api.ErrNone},
		{roster(list(3)), nil, api.HourPair{}, api.ErrNone},
		{api.HourRoster{}, nil, api.HourPair{}, api.ErrNone},
		{api.HourRoster{}, list(0), api.HourPair{}, api.ErrArg},
	} {
		swap, e := hours.Swap(x.r, x.l)
		if swap != x.want || e != x.e {
			t.Errorf("Swap(%v, %v) = %v, %d", x.r, x.l, swap, e)
		}
	}
}

func TestP8_13Give(t *testing.T) {
	helps, not, many := 0, 0, 0
	eachNew(13, 3000, func(_ *rand.Rand, h api.HourRoster, all [][]int) {
		_, least := bests(h, all, price)
		for hour, room := range h.Room {
			give, e := hours.Give(h, hour)
			if room == api.MaxHourStreets {
				many++
				if give != 0 || e != api.ErrMany {
					t.Errorf("Give(%v, %d) = %d, %d", h, hour, give, e)
				}
				continue
			}
			more := withRoom(h, hour, 1)
			_, then := bests(more, newOf(more), price)
			if give != least-then || e != api.OK {
				t.Errorf("Give(%v, %d) = %d, %d, not %d", h, hour, give, e, least-then)
			}
			if give > 0 {
				helps++
			} else {
				not++
			}
		}
	})
	if helps < 300 || not < 300 || many < 100 {
		t.Errorf("not all was tried: %d, %d, %d", helps, not, many)
	}
	eachWithout(13, 1000, func(_ *rand.Rand, h api.HourRoster) {
		for hour, room := range h.Room {
			want := api.ErrNone
			if room == api.MaxHourStreets {
				want = api.ErrMany
			}
			if give, e := hours.Give(h, hour); give != 0 || e != want {
				t.Errorf("Give(%v, %d) = %d, %d, not %d", h, hour, give, e, want)
			}
		}
	})
	five := roster(list(5, 1), same6(street(0, 0, 1, 9))...)
	for _, x := range []struct {
		r    api.HourRoster
		hour int
		want int
		e    api.Errno
	}{
		{tight(), 0, 63, api.OK},
		{tight(), 6, 9, api.OK},
		{tight(), 7, 0, api.ErrMany},
		{tight(), 8, 0, api.ErrArg},
		{five, 0, 9, api.OK},
		{five, 1, 0, api.OK},
		// With more room there would be a new roster, but there is none now.
		{roster(list(0), street(0, 0, 0, 1)), 0, 0, api.ErrNone},
		{roster(list(0, 6), street(0, 0, 0, 1)), 1, 0, api.ErrMany},
		{roster(list(5)), 0, 0, api.OK},
		{roster(list(6)), 0, 0, api.ErrMany},
		{api.HourRoster{}, 0, 0, api.ErrArg},
	} {
		if give, e := hours.Give(x.r, x.hour); give != x.want || e != x.e {
			t.Errorf("Give(%v, %d) = %d, %d", x.r, x.hour, give, e)
		}
	}
}

func TestNilAndEmpty(t *testing.T) {
	empty := []api.HourStreet{}
	for _, rosters := range [][]api.HourRoster{
		{{}, roster(list()), {Room: nil, Streets: empty}, {Room: list(), Streets: empty}},
		{roster(list(3, 0)), {Room: list(3, 0), Streets: empty}},
	} {
		for _, n := range list(0, -1, 1) {
			for _, l := range [][]int{nil, {}} {
				want, _ := errors(rosters[0], asked{nil, n, n})
				for _, r := range rosters {
					list, zero := errors(r, asked{l, n, n})
					if e := hours.Check(r); e != api.OK || !slices.Equal(list, want) || !zero || !isGood(r, l) {
						t.Errorf("%v: Check = %d, errors %v, zero %v", r, e, list, zero)
					}
				}
			}
		}
	}
	for _, l := range [][]int{nil, {}} {
		if list, _ := errors(rosterR(), asked{l, 0, 0}); list[1] != api.ErrArg || list[2] != api.ErrArg || isGood(rosterR(), l) {
			t.Errorf("errors %v", list)
		}
	}
}

// spoil changes all that a list has room for.
func spoil(list []int) {
	for n := range list[:cap(list)] {
		list[:cap(list)][n] = -9
	}
}

func TestMemory(t *testing.T) {
	eachNew(21, 600, func(r *rand.Rand, h api.HourRoster, all [][]int) {
		kept, l := clone(h), slices.Clone(all[r.Intn(len(all))])
		keptHours := slices.Clone(l)
		// What lies behind the lists is the caller's, too.
		h.Room = append(h.Room, 7)[:len(h.Room)]
		h.Streets = append(h.Streets, street(7, 7, 7, 7))[:len(h.Streets)]
		l = append(l, 7)[:len(l)]
		best, _ := bests(kept, all, price)
		for range 2 {
			moved, _ := hours.Moved(h, l)
			first, fair := firstOf(h), fairOf(h)
			if !slices.Equal(first, best[0]) || !slices.Equal(fair, fairOf(kept)) {
				t.Errorf("%v: Roster = %v, Fair = %v", kept, first, fair)
			}
			spoil(moved)
			spoil(first)
			spoil(fair)
			for n := range max(len(h.Streets), len(h.Room)) {
				errors(h, asked{l, n, n})
			}
		}
		behind := h.Room[:len(h.Room)+1][len(h.Room)] + l[:len(l)+1][len(l)]
		last := h.Streets[:len(h.Streets)+1][len(h.Streets)]
		if !same(h, kept) || !slices.Equal(l, keptHours) || behind != 14 || last != street(7, 7, 7, 7) {
			t.Errorf("%v, %v have become %v, %v", kept, keptHours, h, l)
		}
	})
}

// isRoster reports whether a roster is valid.
func isRoster(r api.HourRoster) bool {
	last := len(r.Room) - 1
	for _, room := range r.Room {
		if room < 0 || room > 6 {
			return false
		}
	}
	for _, s := range r.Streets {
		if s.Has < -1 || s.Has > last || s.From < 0 || s.To < s.From || s.To > last || s.Cost < 0 || s.Cost > 9 {
			return false
		}
	}
	return last < 8 && len(r.Streets) <= 6
}

func TestP1Hours(t *testing.T) {
	r := rand.New(rand.NewSource(1))
	good, bad := 0, 0
	for range 20000 {
		h := someRoster(r)
		if len(h.Room) > 0 && r.Intn(6) == 0 {
			h.Room[r.Intn(len(h.Room))] = anyNumber(r)
		}
		if len(h.Streets) > 0 && r.Intn(4) == 0 {
			s := &h.Streets[r.Intn(len(h.Streets))]
			*[]*int{&s.Has, &s.From, &s.To, &s.Cost}[r.Intn(4)] = anyNumber(r)
		}
		if r.Intn(10) == 0 {
			h.Streets = append(h.Streets, street(anyNumber(r), anyNumber(r), anyNumber(r), anyNumber(r)))
		}
		if r.Intn(10) == 0 {
			h.Room = append(h.Room, anyNumber(r))
		}
		is := isRoster(h)
		if is {
			good++
		} else {
			bad++
		}
		var l []int
		for range h.Streets {
			l = append(l, anyNumber(r))
		}
		list, zero := errors(h, asked{l, anyNumber(r), anyNumber(r)})
		if e := hours.Check(h); (e == api.OK) != is || is == areAll(append(list, e), api.ErrHour) || !zero {
			t.Errorf("%v: Check = %d, errors %v, zero %v", h, e, list, zero)
		}
	}
	if good < 2000 || bad < 2000 {
		t.Errorf("not all was tried: %d, %d", good, bad)
	}
}
