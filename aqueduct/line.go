package aqueduct

import (
	"slices"

	"steening/api"
)

// valid reports whether a line is valid.
func valid(d api.DuctLine) bool {
	if len(d.Odds) > api.MaxDuctStretches || len(d.Points) != len(d.Odds)+1 {
		return false
	}
	for _, odds := range d.Odds {
		if !isFrom(odds, 1, api.MaxDuctOdds) {
			return false
		}
	}
	for _, p := range d.Points {
		if !isPossible(p) {
			return false
		}
	}
	return true
}

// isPossible reports whether the numbers of a point are such as can be.
func isPossible(p api.DuctPoint) bool {
	if !isFrom(p.Flow.Low, 0, p.Flow.High) || p.Flow.High > api.MaxDuctFlow {
		return false
	}
	return isFrom(p.Cost, 0, api.MaxDuctCost)
}

// isFrom reports whether a number is from one to another one.
func isFrom(n, low, high int) bool {
	return n >= low && n <= high
}

// isPoint reports whether a point is one of the line.
func isPoint(d api.DuctLine, point int) bool {
	return point >= 0 && point < len(d.Points)
}

// isStretch reports whether a stretch is one of the line.
func isStretch(d api.DuctLine, stretch int) bool {
	return stretch >= 0 && stretch < len(d.Odds)
}

// areSome reports whether there are some stretches of the line from a number to
// another one.
func areSome(d api.DuctLine, from, to int) bool {
	return from >= 0 && from < to && to <= len(d.Odds)
}

// check returns the errors that all functions share, in their order: the line
// must be valid, and what is asked for must be of it.
func check(d api.DuctLine, isOfLine bool) api.Errno {
	if !valid(d) {
		return api.ErrDuct
	}
	if !isOfLine {
		return api.ErrArg
	}
	return api.OK
}

// oddsOf returns the odds of some stretches together.
func oddsOf(d api.DuctLine, from, to int) int {
	all := 0
	for _, odds := range d.Odds[from:to] {
		all += odds
	}
	return all
}

// withFree returns the line with a point where it costs nothing to gauge.
func withFree(d api.DuctLine, point int) api.DuctLine {
	d.Points = slices.Clone(d.Points)
	d.Points[point].Cost = 0
	return d
}
