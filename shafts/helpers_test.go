package shafts_test

import (
	"math/rand"
	"slices"

	"steening/api"
	"steening/shafts"
)

func rock(hours, pence, stand, seat int) api.ShaftRock {
	return api.ShaftRock{Hours: hours, Pence: pence, Stand: stand, Seat: seat}
}

// shaftS and shaftT are the shafts S and T of the chapter's examples.
func shaftS() api.Shaft {
	return api.Shaft{
		Rocks: []api.ShaftRock{rock(2, 5, 2, api.ShaftNone), rock(4, 9, 3, 6), rock(8, 20, 5, 1)},
		Feet:  []int{0, 1, 1, 0, 2},
		Deep:  1, Haul: 1, Rest: 3,
	}
}

func shaftT() api.Shaft {
	return api.Shaft{
		Rocks: []api.ShaftRock{rock(1, 2, 2, 9), rock(1, 2, 2, 0)},
		Feet:  []int{1, 0, 1, 0},
		Rest:  2,
	}
}

// widest returns the shaft with the greatest numbers of all.
func widest() api.Shaft {
	r := rock(api.MaxShaftHours, api.MaxShaftPence, api.MaxShaftStand, api.MaxShaftSeat)
	return api.Shaft{
		Rocks: slices.Repeat([]api.ShaftRock{r}, api.MaxShaftRocks),
		Feet:  slices.Repeat([]int{api.MaxShaftRocks - 1}, api.MaxShaftFeet),
		Deep:  api.MaxShaftDeep, Haul: api.MaxShaftHaul, Rest: api.MaxShaftRest,
	}
}

// clone returns a shaft that shares no memory with another one.
func clone(s api.Shaft) api.Shaft {
	s.Rocks = slices.Clone(s.Rocks)
	s.Feet = slices.Clone(s.Feet)
	return s
}

// same reports whether two shafts are the same.
func same(a, b api.Shaft) bool {
	numbers := a.Deep == b.Deep && a.Haul == b.Haul && a.Rest == b.Rest
	return numbers && slices.Equal(a.Rocks, b.Rocks) && slices.Equal(a.Feet, b.Feet)
}

// stopsOf returns all lists of stops of a shaft with so many feet.
func stopsOf(feet int) [][]int {
	var all [][]int
	for set := range 1 << feet {
		var stops []int
		for depth := 1; depth <= feet; depth++ {
			if set>>(depth-1)&1 == 1 {
				stops = append(stops, depth)
			}
		}
		all = append(all, stops)
	}
	return all
}

// outcome is what becomes of a shaft that is dug foot by foot.
type outcome struct {
	pence, hours int
	fall         int // the first foot with which it can fall, -1 if there is none
	rests        bool
	bare         int // how many feet are not lined at the end
}

// dig digs a shaft foot by foot, and lays the rings of some stops.
func dig(s api.Shaft, stops []int) outcome {
	o := outcome{fall: -1, rests: true}
	var bare []api.ShaftRock
	for foot, number := range s.Feet {
		r := s.Rocks[number]
		bare = append(bare, r)
		o.pence += r.Pence
		for range foot {
			o.pence += s.Deep
		}
		o.hours += r.Hours
		weak := slices.ContainsFunc(bare, func(r api.ShaftRock) bool { return len(bare) > r.Stand })
		if weak && o.fall < 0 {
			o.fall = foot
		}
		if slices.Contains(stops, foot+1) {
			bare = nil
			o.rests = o.rests && r.Seat != api.ShaftNone
			o.pence += r.Seat
			for range foot + 1 {
				o.pence += s.Haul
			}
			o.hours += s.Rest
		}
	}
	o.bare = len(bare)
	return o
}

// plans returns all plans of a shaft, the least list first, found by digging.
func plans(s api.Shaft) [][]int {
	var all [][]int
	for _, stops := range stopsOf(len(s.Feet)) {
		if o := dig(s, stops); o.fall < 0 && o.rests && o.bare == 0 {
			all = append(all, stops)
		}
	}
	slices.SortFunc(all, slices.Compare[[]int])
	return all
}

// cheapOf returns the fewest pence that one of some plans costs, -1 if there
// are none.
func cheapOf(s api.Shaft, all [][]int) int {
	cheap := -1
	for _, plan := range all {
		if o := dig(s, plan); cheap < 0 || o.pence < cheap {
			cheap = o.pence
		}
	}
	return cheap
}

// first returns the shaft of the first feet.
func first(s api.Shaft, feet int) api.Shaft {
	s = clone(s)
	s.Feet = s.Feet[:feet]
	return s
}

// behind returns a shaft with one more foot.
func behind(s api.Shaft, rock int) api.Shaft {
	s = clone(s)
	s.Feet = append(s.Feet, rock)
	return s
}

// someRock returns a random rock, on which a ring can rest more often than not.
func someRock(r *rand.Rand, stand int) api.ShaftRock {
	k := rock(r.Intn(5), r.Intn(12), 1+r.Intn(stand), r.Intn(12))
	switch r.Intn(12) {
	case 0, 1, 2:
		k.Seat = api.ShaftNone
	case 3:
		k.Stand = r.Intn(api.MaxShaftStand + 1)
	case 4:
		k = rock(r.Intn(10), r.Intn(100), r.Intn(13), r.Intn(100))
	}
	return k
}

// someShaft returns a random shaft of at most so many feet.
func someShaft(r *rand.Rand, feet int) api.Shaft {
	s := api.Shaft{Deep: r.Intn(4), Haul: r.Intn(4), Rest: r.Intn(4)}
	if r.Intn(8) == 0 {
		s.Deep, s.Haul, s.Rest = r.Intn(10), r.Intn(10), r.Intn(10)
	}
	stand := 2 + r.Intn(4)
	for range 1 + r.Intn(api.MaxShaftRocks) {
		s.Rocks = append(s.Rocks, someRock(r, stand))
	}
	for range r.Intn(feet + 1) {
		s.Feet = append(s.Feet, r.Intn(len(s.Rocks)))
	}
	return s
}

// eachShaft calls a function with many shafts and all their plans.
func eachShaft(seed int64, call func(s api.Shaft, all [][]int)) {
	r := rand.New(rand.NewSource(seed))
	for range 600 {
		s := someShaft(r, 7)
		call(s, plans(s))
	}
	for range 20 {
		s := someShaft(r, api.MaxShaftFeet)
		call(s, plans(s))
	}
	zero := api.Shaft{Rocks: []api.ShaftRock{rock(0, 0, 0, 0)}}
	for _, s := range []api.Shaft{{}, zero, behind(zero, 0), shaftS(), shaftT(), widest(), first(widest(), 0)} {
		call(s, plans(s))
	}
}

// someStops returns random stops of a shaft with so many feet.
func someStops(r *rand.Rand, feet int) []int {
	var stops []int
	for depth := 1; depth <= feet; depth++ {
		if r.Intn(2) == 0 {
			stops = append(stops, depth)
		}
	}
	return stops
}

// fallOf returns the first foot with which a shaft can fall, as Falls says;
// the number of feet if there is none.
func fallOf(s api.Shaft, stops []int) int {
	foot, e := shafts.Falls(s, stops)
	if e == api.ErrNone {
		return len(s.Feet)
	}
	return foot
}

// good reports what Good does.
func good(s api.Shaft, stops []int) bool {
	is, e := shafts.Good(s, stops)
	return is && e == api.OK
}
