package cisterns

import "steening/api"

// lasts reports whether a year lasts: what does not lack in the driest weather
// lacks in none.
func lasts(y api.CisternYear) bool {
	for a := range days(y, driest(y)) {
		if lacks(a) {
			return false
		}
	}
	return true
}

// fewest returns the least number from 0 to another one with which a year
// lasts, if there is one.
func fewest(high int, with func(n int) api.CisternYear) (number int, is bool) {
	for n := range high + 1 {
		if lasts(with(n)) {
			return n, true
		}
	}
	return 0, false
}

// greatest returns the greatest number from 0 to another one with which a year
// lasts, if there is one.
func greatest(high int, with func(n int) api.CisternYear) (number int, is bool) {
	for n := high; n >= 0; n-- {
		if lasts(with(n)) {
			return n, true
		}
	}
	return 0, false
}

// sizeOf returns the least Size with which a year lasts, if there is one.
func sizeOf(y api.CisternYear) (size int, is bool) {
	return fewest(api.MaxCistern, func(n int) api.CisternYear { return withSize(y, n) })
}

// startOf returns the least Start with which it lasts, if there is one.
func startOf(y api.CisternYear) (start int, is bool) {
	return fewest(y.Size, func(n int) api.CisternYear { return withStart(y, n) })
}

// rationOf returns the greatest ration with which it lasts: with 0 each year
// does.
func rationOf(y api.CisternYear) (ration int, is bool) {
	return greatest(api.MaxCisternWant, func(n int) api.CisternYear { return withRation(y, n) })
}

// spareOf returns how much more can be wanted on a day, if it lasts. That is
// never more than the cistern holds.
func spareOf(y api.CisternYear, day int) (more int, is bool) {
	return greatest(y.Size, func(n int) api.CisternYear { return withMore(y, day, n) })
}
