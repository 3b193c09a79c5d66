package mouths

import (
	"slices"

	"steening/api"
)

// valid reports whether a box is valid.
func valid(b api.MouthBox) bool {
	if len(b.Shares) > api.MaxMouthQuarters || len(b.Shares) != len(b.Mosts) {
		return false
	}
	return areFrom(0, api.MaxMouthShare, b.Shares...) && areFrom(0, api.MaxMouthMost, b.Mosts...)
}

// areFrom reports whether all numbers are from one number to another one.
func areFrom(low, high int, numbers ...int) bool {
	for _, n := range numbers {
		if n < low || n > high {
			return false
		}
	}
	return true
}

// isQuarter reports whether a quarter is one of the box.
func isQuarter(b api.MouthBox, quarter int) bool {
	return quarter >= 0 && quarter < len(b.Shares)
}

// areFlows reports whether all numbers are flows.
func areFlows(numbers ...int) bool {
	return areFrom(0, api.MaxMouthFlow, numbers...)
}

// isMany reports whether one may ask for so many gauges of a quarter.
func isMany(gauges int) bool {
	return areFrom(1, api.MaxMouthMost, gauges)
}

// isGauge reports whether a number is that of a gauge.
func isGauge(gauge int) bool {
	return areFrom(0, api.MaxMouthFlow-1, gauge)
}

// check returns the errors that all functions share, in their order: the box
// must be valid, and what is asked for must be such as can be.
func check(b api.MouthBox, canBe bool) api.Errno {
	if !valid(b) {
		return api.ErrMouth
	}
	if !canBe {
		return api.ErrArg
	}
	return api.OK
}

// withShare returns a box with another share of a quarter.
func withShare(b api.MouthBox, quarter, share int) api.MouthBox {
	b.Shares = slices.Clone(b.Shares)
	b.Shares[quarter] = share
	return b
}

// sum returns the sum of numbers.
func sum(numbers ...int) int {
	all := 0
	for _, n := range numbers {
		all += n
	}
	return all
}

// greatest returns the place of the greatest one of numbers, of several the
// first one.
func greatest(numbers ...int) int {
	place := 0
	for n, number := range numbers {
		if number > numbers[place] {
			place = n
		}
	}
	return place
}
