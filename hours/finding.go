package hours

import "steening/api"

// room is how many streets more can draw in each hour. There is none behind the
// last hour of a roster.
type room [api.MaxHours]int

// choice is the first hour of a street with which the cheapest way begins to
// give hours to it and to all streets behind it, and what these cost together;
// none is true if there is no such way.
type choice struct {
	hour, cost int
	none       bool
}

// finder finds the cheapest new roster of a valid one.
type finder struct {
	api.HourRoster
	price price // what each hour costs each street
	found map[room]choice
}

// newFinder returns one who finds by a price.
func newFinder(r api.HourRoster, p price) *finder {
	return &finder{HourRoster: r, price: p, found: make(map[room]choice)}
}

// all returns the room of all hours while no street has one yet.
func (f *finder) all() room {
	var left room
	copy(left[:], f.Room)
	return left
}

// choose returns the choice of a street if so much room is left by those before
// it.
func (f *finder) choose(street int, left room) choice {
	if street == len(f.Streets) {
		return choice{}
	}
	// Each street before this one takes as much room, so that the room that is
	// left says how many they are.
	if c, is := f.found[left]; is {
		return c
	}
	best := choice{none: true}
	s := f.Streets[street]
	for hour := s.From; hour <= s.To; hour++ {
		c := f.with(street, hour, left)
		if !c.none && (best.none || c.cost < best.cost) {
			best = c
		}
	}
	f.found[left] = best
	return best
}

// with returns the choice of a street if it must have this hour.
func (f *finder) with(street, hour int, left room) choice {
	cost, may := f.price(street, hour)
	if !may || left[hour] == 0 {
		return choice{none: true}
	}
	left[hour]--
	behind := f.choose(street+1, left)
	return choice{hour: hour, cost: cost + behind.cost, none: behind.none}
}

// least returns what the cheapest new roster costs, if there is one.
func (f *finder) least() (cost int, is bool) {
	c := f.choose(0, f.all())
	return c.cost, !c.none
}

// first returns the first one of the cheapest new rosters, if there is one.
func (f *finder) first() (hours []int, is bool) {
	left := f.all()
	for street := range f.Streets {
		c := f.choose(street, left)
		if c.none {
			return nil, false
		}
		hours = append(hours, c.hour)
		left[c.hour]--
	}
	return hours, true
}

// leastOf returns the least cost of a new roster, if there is one.
func leastOf(r api.HourRoster) (cost int, is bool) {
	return newFinder(r, costs(r)).least()
}

// farOf returns what Far does, if there is a new roster.
func farOf(r api.HourRoster) (far int, is bool) {
	// No two hours are farther apart than this goes.
	for far := range api.MaxHours {
		if _, is := newFinder(r, only(costs(r), within(r, far))).least(); is {
			return far, true
		}
	}
	return 0, false
}

// boundOf returns whether a street keeps its hour in the new rosters of the
// least cost, if there is one: surely, never, or perhaps.
func boundOf(r api.HourRoster, street int) (bound int, is bool) {
	least, is := leastOf(r)
	if !is {
		return 0, false
	}
	keeps := func(s, hour int) bool { return s != street || hour == r.Streets[s].Has }
	loses := func(s, hour int) bool { return s != street || hour != r.Streets[s].Has }
	switch {
	case !canCost(r, keeps, least):
		return api.Never, true
	case !canCost(r, loses, least):
		return api.Surely, true
	}
	return api.Perhaps, true
}

// canCost reports whether a new roster in which each street has an hour that it
// may have costs so much, which is the least of all.
func canCost(r api.HourRoster, may func(street, hour int) bool, least int) bool {
	cost, is := newFinder(r, only(costs(r), may)).least()
	return is && cost == least
}

// givenBy returns by how much the least cost is less with room for one street
// more in an hour, if there is a new roster.
func givenBy(r api.HourRoster, hour int) (less int, is bool) {
	before, is := leastOf(r)
	if !is {
		return 0, false
	}
	// With more room there is a new roster, too.
	after, _ := leastOf(withRoom(r, hour))
	return before - after, true
}
