package shafts

import "steening/api"

// digging is a valid shaft that is dug and lined.
type digging struct {
	api.Shaft
}

// rockOf returns the rock of a foot.
func (d *digging) rockOf(foot int) api.ShaftRock {
	return d.Rocks[d.Feet[foot]]
}

// foot returns what a foot costs, and how many hours it takes.
func (d *digging) foot(foot int) (pence, hours int) {
	rock := d.rockOf(foot)
	return rock.Pence + foot*d.Deep, rock.Hours
}

// feet returns what all feet cost, and how many hours they take.
func (d *digging) feet() (pence, hours int) {
	for n := range d.Feet {
		p, h := d.foot(n)
		pence, hours = pence+p, hours+h
	}
	return pence, hours
}

// ring returns what a ring at a depth costs, and whether one can rest there.
func (d *digging) ring(depth int) (pence int, rests bool) {
	seat := d.rockOf(depth - 1).Seat
	if seat == api.ShaftNone {
		return 0, false
	}
	return seat + depth*d.Haul, true
}

// stands reports whether the shaft cannot fall when it is dug from a ring, or
// from the top, to a depth. If it stands there, it stood with fewer feet that
// were not lined, too: these are fewer, and none of them stands less.
func (d *digging) stands(from, to int) bool {
	for n := from; n < to; n++ {
		if to-from > d.rockOf(n).Stand {
			return false
		}
	}
	return true
}

// areStops reports whether a list of any numbers are stops.
func (d *digging) areStops(list []int) bool {
	above := 0
	for _, depth := range list {
		if depth <= above || depth > len(d.Feet) {
			return false
		}
		above = depth
	}
	return true
}

// falls returns the first foot with which the shaft can fall with some stops,
// and whether there is one.
func (d *digging) falls(stops []int) (foot int, is bool) {
	ring := 0
	for foot := range d.Feet {
		// A ring at the depth of this foot's top lines the feet above it.
		if len(stops) > 0 && stops[0] == foot {
			ring, stops = foot, stops[1:]
		}
		if !d.stands(ring, foot+1) {
			return foot, true
		}
	}
	return 0, false
}

// isPlan reports whether a list of any numbers is a plan.
func (d *digging) isPlan(list []int) bool {
	if !d.areStops(list) || bottom(list) != len(d.Feet) {
		return false
	}
	for _, depth := range list {
		if _, rests := d.ring(depth); !rests {
			return false
		}
	}
	_, falls := d.falls(list)
	return !falls
}

// bottom returns the depth of the last one of some stops, 0 if there are none.
func bottom(stops []int) int {
	if len(stops) == 0 {
		return 0
	}
	return stops[len(stops)-1]
}

// cost returns what all feet and rings of a plan cost, and how many hours they take.
func (d *digging) cost(plan []int) (pence, hours int) {
	pence, hours = d.feet()
	for _, depth := range plan {
		ring, _ := d.ring(depth)
		pence, hours = pence+ring, hours+d.Rest
	}
	return pence, hours
}
