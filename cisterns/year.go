package cisterns

import (
	"slices"

	"steening/api"
)

// valid reports whether a year is valid.
func valid(y api.CisternYear) bool {
	if !isFrom(y.Size, 0, api.MaxCistern) || !isFrom(y.Start, 0, y.Size) || len(y.Days) > api.MaxCisternDays {
		return false
	}
	for _, d := range y.Days {
		if !isPossible(d) {
			return false
		}
	}
	return true
}

// isPossible reports whether the numbers of a day are such as can be.
func isPossible(d api.CisternDay) bool {
	if !isFrom(d.Rain.Low, 0, d.Rain.High) || d.Rain.High > api.MaxCisternRain {
		return false
	}
	return isFrom(d.Want, 0, api.MaxCisternWant)
}

// isFrom reports whether a number is from one to another one.
func isFrom(n, low, high int) bool {
	return n >= low && n <= high
}

// isDay reports whether a day is one of the year.
func isDay(y api.CisternYear, day int) bool {
	return day >= 0 && day < len(y.Days)
}

// isWeather reports whether a list of any numbers is a weather.
func isWeather(y api.CisternYear, weather []int) bool {
	if len(weather) != len(y.Days) {
		return false
	}
	for n, d := range y.Days {
		if !isFrom(weather[n], d.Rain.Low, d.Rain.High) {
			return false
		}
	}
	return true
}

// check returns the errors that all functions share, in their order: the year
// must be valid, and what is asked for must be such as can be.
func check(y api.CisternYear, canBe bool) api.Errno {
	if !valid(y) {
		return api.ErrCistern
	}
	if !canBe {
		return api.ErrArg
	}
	return api.OK
}

// withSize returns a year with another Size, and with no greater Start than
// this leaves.
func withSize(y api.CisternYear, size int) api.CisternYear {
	y.Size, y.Start = size, min(y.Start, size)
	return y
}

// withStart returns a year with another Start.
func withStart(y api.CisternYear, start int) api.CisternYear {
	y.Start = start
	return y
}

// withRation returns a year in which no Want is greater than a number.
func withRation(y api.CisternYear, ration int) api.CisternYear {
	y.Days = slices.Clone(y.Days)
	for n, d := range y.Days {
		y.Days[n].Want = min(d.Want, ration)
	}
	return y
}

// withMore returns a year in which so much more is wanted on a day.
func withMore(y api.CisternYear, day, more int) api.CisternYear {
	y.Days = slices.Clone(y.Days)
	y.Days[day].Want += more
	return y
}
