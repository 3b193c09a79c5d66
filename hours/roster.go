package hours

import (
	"slices"

	"steening/api"
)

// maxCost is the greatest Cost of a street.
const maxCost = 9

// valid reports whether a roster is valid.
func valid(r api.HourRoster) bool {
	if len(r.Room) > api.MaxHours || len(r.Streets) > api.MaxHourStreets {
		return false
	}
	for _, room := range r.Room {
		if !isFrom(room, 0, api.MaxHourStreets) {
			return false
		}
	}
	for _, s := range r.Streets {
		if !isPossible(r, s) {
			return false
		}
	}
	return true
}

// isPossible reports whether the numbers of a street are such as can be.
func isPossible(r api.HourRoster, s api.HourStreet) bool {
	if s.Has != api.HourNone && !isHour(r, s.Has) {
		return false
	}
	if !isHour(r, s.From) || !isHour(r, s.To) || s.From > s.To {
		return false
	}
	return isFrom(s.Cost, 0, maxCost)
}

// isFrom reports whether a number is from one to another one.
func isFrom(n, low, high int) bool {
	return n >= low && n <= high
}

// isHour reports whether an hour is one of the roster.
func isHour(r api.HourRoster, hour int) bool {
	return hour >= 0 && hour < len(r.Room)
}

// isStreet reports whether a street is one of the roster.
func isStreet(r api.HourRoster, street int) bool {
	return street >= 0 && street < len(r.Streets)
}

// check returns the errors that all functions share, in their order: the roster
// must be valid, and what is asked for must be of it.
func check(r api.HourRoster, isOfRoster bool) api.Errno {
	if !valid(r) {
		return api.ErrHour
	}
	if !isOfRoster {
		return api.ErrArg
	}
	return api.OK
}

// checkNew returns the errors of all functions that ask for a new roster.
func checkNew(r api.HourRoster, hours []int) api.Errno {
	if e := Check(r); e != api.OK {
		return e
	}
	return check(r, isNew(r, hours))
}

// isNew reports whether a list of any numbers is a new roster of a valid one.
func isNew(r api.HourRoster, hours []int) bool {
	if len(hours) != len(r.Streets) {
		return false
	}
	left := slices.Clone(r.Room)
	for street, s := range r.Streets {
		hour := hours[street]
		if !isFrom(hour, s.From, s.To) || left[hour] == 0 {
			return false
		}
		left[hour]--
	}
	return true
}

// moveOf returns by how many hours a street is moved if it has this hour.
func moveOf(s api.HourStreet, hour int) int {
	if s.Has == api.HourNone {
		return 0
	}
	return max(hour-s.Has, s.Has-hour)
}

// costOf returns the cost of a new roster.
func costOf(r api.HourRoster, hours []int) int {
	all := 0
	for street, s := range r.Streets {
		all += moveOf(s, hours[street]) * s.Cost
	}
	return all
}

// swapOf returns the first two streets, if there are such, that better a new
// roster if they exchange their hours.
func swapOf(r api.HourRoster, hours []int) (pair api.HourPair, is bool) {
	cost := costOf(r, hours)
	for a := range hours {
		for b := a + 1; b < len(hours); b++ {
			swapped := slices.Clone(hours)
			swapped[a], swapped[b] = swapped[b], swapped[a]
			if isNew(r, swapped) && costOf(r, swapped) < cost {
				return api.HourPair{A: a, B: b}, true
			}
		}
	}
	return api.HourPair{}, false
}

// lackOf returns the span that Lack names, if some span of hours lacks room.
func lackOf(r api.HourRoster) (span api.Span, is bool) {
	for high := range r.Room {
		for low := high; low >= 0; low-- {
			span = api.Span{Low: low, High: high}
			if lacksRoom(r, span) {
				return span, true
			}
		}
	}
	return api.Span{}, false
}

// lacksRoom reports whether more streets can have hours of a span alone than
// there is room for in it.
func lacksRoom(r api.HourRoster, span api.Span) bool {
	left := 0
	for _, room := range r.Room[span.Low : span.High+1] {
		left += room
	}
	for _, s := range r.Streets {
		if s.From >= span.Low && s.To <= span.High {
			left--
		}
	}
	return left < 0
}

// withRoom returns a roster with room for one street more in an hour.
func withRoom(r api.HourRoster, hour int) api.HourRoster {
	r.Room = slices.Clone(r.Room)
	r.Room[hour]++
	return r
}
