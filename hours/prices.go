package hours

import "steening/api"

// price tells what an hour costs a street, if the street may have it.
type price func(street, hour int) (cost int, may bool)

// costs returns the price by which each street has its cost.
func costs(r api.HourRoster) price {
	return func(street, hour int) (int, bool) {
		s := r.Streets[street]
		return moveOf(s, hour) * s.Cost, true
	}
}

// counts returns the price by which each street that is moved costs 1.
func counts(r api.HourRoster) price {
	return func(street, hour int) (int, bool) {
		return min(1, moveOf(r.Streets[street], hour)), true
	}
}

// only returns a price by which streets may have fewer hours.
func only(p price, may func(street, hour int) bool) price {
	return func(street, hour int) (int, bool) {
		if !may(street, hour) {
			return 0, false
		}
		return p(street, hour)
	}
}

// within tells whether a street is moved by at most so many hours.
func within(r api.HourRoster, far int) func(street, hour int) bool {
	return func(street, hour int) bool {
		return moveOf(r.Streets[street], hour) <= far
	}
}
