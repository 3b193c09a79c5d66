package places

import (
	"steening/api"
	"steening/quarrels"
	"steening/shafts"
)

// valid reports whether a town is valid.
func valid(t api.PlaceTown) bool {
	if quarrels.Check(t.Quarrel) != api.OK || len(t.Spots) > api.MaxPlaceSpots {
		return false
	}
	wells := t.Quarrel.Wells
	if !areUpTo(t.Olds, wells, api.MaxPlaceAt) || !areUpTo(t.Pence, wells, api.MaxPlacePence) {
		return false
	}
	for _, s := range t.Spots {
		if !isPossible(t.Quarrel, s) {
			return false
		}
	}
	return isUpTo(t.Far, api.MaxPlaceFar) && isUpTo(t.Harm, api.MaxPlaceHarm) && isUpTo(t.Many, api.MaxPlaceMany)
}

// isPossible reports whether a spot is such as can be beside the old wells, and
// in the worlds, of a valid town of quarrels.
func isPossible(q api.QuarrelTown, s api.PlaceSpot) bool {
	if !isUpTo(s.At, api.MaxPlaceAt) || shafts.Check(s.Shaft) != api.OK || len(s.Falls) != len(q.Worlds) {
		return false
	}
	for _, falls := range s.Falls {
		if !areUpTo(falls, q.Wells, api.MaxQuarrelFall) {
			return false
		}
	}
	return true
}

// isUpTo reports whether a number is from 0 to another one.
func isUpTo(n, most int) bool {
	return n >= 0 && n <= most
}

// areUpTo reports whether a list has so many numbers, each from 0 to another one.
func areUpTo(list []int, many, most int) bool {
	if len(list) != many {
		return false
	}
	for _, n := range list {
		if !isUpTo(n, most) {
			return false
		}
	}
	return true
}

// isSpot reports whether a spot is one of the town.
func isSpot(t api.PlaceTown, spot int) bool {
	return spot >= 0 && spot < len(t.Spots)
}

// isOld reports whether a well is one of the old ones of the town.
func isOld(t api.PlaceTown, well int) bool {
	return well >= 0 && well < len(t.Olds)
}

// check returns the errors that all functions share, in their order: the town
// must be valid, and what is asked for must be of it.
func check(t api.PlaceTown, isOfTown bool) api.Errno {
	if !valid(t) {
		return api.ErrPlace
	}
	if !isOfTown {
		return api.ErrArg
	}
	return api.OK
}

// distance returns how far apart two places are.
func distance(a, b int) int {
	return max(a-b, b-a)
}

// nearest returns the distance of a spot to the nearest old well, if there are
// old wells.
func nearest(t api.PlaceTown, spot int) (far int, is bool) {
	for _, at := range t.Olds {
		if d := distance(t.Spots[spot].At, at); !is || d < far {
			far, is = d, true
		}
	}
	return far, is
}
