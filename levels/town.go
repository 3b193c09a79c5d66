package levels

import "steening/api"

// valid reports whether a town is valid.
func valid(t api.LevelTown) bool {
	if t.Wells < 0 || t.Wells > api.MaxLevelWells {
		return false
	}
	if len(t.Soundings) > api.MaxLevelSoundings || len(t.Slopes) > api.MaxLevelSlopes {
		return false
	}
	for _, s := range t.Soundings {
		if !isWell(t, s.Well) || !isSpan(s.Low, s.High, 0) {
			return false
		}
	}
	for _, s := range t.Slopes {
		if !isWell(t, s.A) || !isWell(t, s.B) || s.A == s.B || !isSpan(s.Low, s.High, -api.MaxLevel) {
			return false
		}
	}
	return true
}

// isWell reports whether a well is one of the town.
func isWell(t api.LevelTown, well int) bool {
	return well >= 0 && well < t.Wells
}

// isSpan reports whether low and high are in order, from a least number to MaxLevel.
func isSpan(low, high, least int) bool {
	return least <= low && low <= high && high <= api.MaxLevel
}

// isTruth reports whether levels of any number are a truth of a valid town.
func isTruth(t api.LevelTown, levels []int) bool {
	if len(levels) != t.Wells {
		return false
	}
	for _, level := range levels {
		// Before levels are subtracted: a greater one could exceed an int.
		if level < 0 || level > api.MaxLevel {
			return false
		}
	}
	for _, s := range t.Soundings {
		if level := levels[s.Well]; level < s.Low || level > s.High {
			return false
		}
	}
	for _, s := range t.Slopes {
		if more := levels[s.B] - levels[s.A]; more < s.Low || more > s.High {
			return false
		}
	}
	return true
}

// own returns the own bound of a well.
func own(t api.LevelTown, well int) int {
	bound := api.MaxLevel
	for _, s := range t.Soundings {
		if s.Well == well {
			bound = min(bound, s.High)
		}
	}
	return bound
}

// step returns the least number that a slope of two wells leaves for the level
// of the one behind less that of the one ahead, if they have a slope.
func step(t api.LevelTown, ahead, behind int) (least int, is bool) {
	for _, s := range t.Slopes {
		leaves := 0
		switch {
		case s.A == ahead && s.B == behind:
			leaves = s.High
		case s.A == behind && s.B == ahead:
			leaves = -s.Low
		default:
			continue
		}
		if !is || leaves < least {
			least, is = leaves, true
		}
	}
	return least, is
}

// leads reports whether a list of wells leads to a well, and says that its
// level is at most high.
func leads(t api.LevelTown, list []int, well, high int) bool {
	if len(list) == 0 || list[len(list)-1] != well {
		return false
	}
	sum := own(t, list[0])
	for n, behind := range list[1:] {
		more, is := step(t, list[n], behind)
		if !is {
			return false
		}
		sum += more
	}
	return sum == high
}
