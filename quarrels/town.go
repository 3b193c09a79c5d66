package quarrels

import "steening/api"

// maxFeet is the greatest number of feet of a fact, and of a law.
const maxFeet = 99

// isEach reports whether something is so of each element of a list.
func isEach[T any](list []T, is func(one T) bool) bool {
	for _, one := range list {
		if !is(one) {
			return false
		}
	}
	return true
}

// isFrom reports whether a number is from one to another one.
func isFrom(n, low, high int) bool {
	return n >= low && n <= high
}

// areUpTo reports whether a list has so many numbers, each from 0 to another one.
func areUpTo(list []int, many, most int) bool {
	return len(list) == many && isEach(list, func(n int) bool { return isFrom(n, 0, most) })
}

// valid reports whether a town is valid.
func valid(t api.QuarrelTown) bool {
	if !isFrom(t.Wells, 0, api.MaxQuarrelWells) {
		return false
	}
	if len(t.Worlds) > api.MaxQuarrelWorlds || len(t.Facts) > api.MaxQuarrelFacts {
		return false
	}
	areFalls := func(list []int) bool { return areUpTo(list, t.Wells, api.MaxQuarrelFall) }
	canBe := func(w api.QuarrelWorld) bool { return len(w.Falls) == t.Wells && isEach(w.Falls, areFalls) }
	return isEach(t.Worlds, canBe) && isEach(t.Facts, func(f api.QuarrelFact) bool { return canBeSeen(t, f) })
}

// canBeSeen reports whether a fact is of wells of the town, and of numbers that
// can be.
func canBeSeen(t api.QuarrelTown, f api.QuarrelFact) bool {
	if !areWells(t, f.From, f.To) || !isFrom(f.Many, 1, api.MaxQuarrelMany) {
		return false
	}
	return isFrom(f.Low, 0, f.High) && f.High <= maxFeet
}

// areWells reports whether wells are ones of the town.
func areWells(t api.QuarrelTown, wells ...int) bool {
	return isEach(wells, func(well int) bool { return well >= 0 && well < t.Wells })
}

// isWorld reports whether a world is one of the town.
func isWorld(t api.QuarrelTown, world int) bool {
	return world >= 0 && world < len(t.Worlds)
}

// areDraws reports whether a list is draws of the town.
func areDraws(t api.QuarrelTown, list []int) bool {
	return areUpTo(list, t.Wells, api.MaxQuarrelMany)
}

// isLaw reports whether a law can be of so many feet.
func isLaw(feet int) bool {
	return isFrom(feet, 0, maxFeet)
}

// agrees reports whether a world agrees with a fact.
func agrees(w api.QuarrelWorld, f api.QuarrelFact) bool {
	return isFrom(w.Falls[f.From][f.To]*f.Many, f.Low, f.High)
}

// leftOf returns the worlds that agree with all facts.
func leftOf(t api.QuarrelTown) worlds {
	var left worlds
	for n, w := range t.Worlds {
		if isEach(t.Facts, func(f api.QuarrelFact) bool { return agrees(w, f) }) {
			left = left.with(n)
		}
	}
	return left
}

// outOf returns the facts with which a world does not agree.
func outOf(t api.QuarrelTown, world int) []int {
	var out []int
	for n, f := range t.Facts {
		if !agrees(t.Worlds[world], f) {
			out = append(out, n)
		}
	}
	return out
}
