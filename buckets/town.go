package buckets

import (
	"slices"

	"steening/api"
)

// valid reports whether a town is valid.
func valid(t api.BucketTown) bool {
	if !areUpTo(t.Houses, api.MaxBucketHouses, api.MaxBucketWant) {
		return false
	}
	if !areUpTo(t.Wells, api.MaxBucketWells, api.MaxBucketHas) || len(t.Ways) > api.MaxBucketWays {
		return false
	}
	for n, way := range t.Ways {
		if !isHouse(t, way.House) || !isWell(t, way.Well) {
			return false
		}
		if n > 0 && !isAhead(t.Ways[n-1], way) {
			return false
		}
	}
	return true
}

// areUpTo reports whether a list has at most so many numbers, each from 0 to
// another number.
func areUpTo(list []int, many, most int) bool {
	if len(list) > many {
		return false
	}
	for _, n := range list {
		if n < 0 || n > most {
			return false
		}
	}
	return true
}

// isHouse reports whether a house is one of the town.
func isHouse(t api.BucketTown, house int) bool {
	return house >= 0 && house < len(t.Houses)
}

// isWell reports whether a well is one of the town.
func isWell(t api.BucketTown, well int) bool {
	return well >= 0 && well < len(t.Wells)
}

// hasWay reports whether a house may draw from a well.
func hasWay(t api.BucketTown, house, well int) bool {
	return slices.Contains(t.Ways, api.BucketWay{House: house, Well: well})
}

// isAhead reports whether a way comes before another one.
func isAhead(a, b api.BucketWay) bool {
	if a.House != b.House {
		return a.House < b.House
	}
	return a.Well < b.Well
}

// withBuckets returns a town with so many buckets more in a well.
func withBuckets(t api.BucketTown, well, more int) api.BucketTown {
	t.Wells = slices.Clone(t.Wells)
	t.Wells[well] += more
	return t
}

// withWay returns a town with one way more, behind all others.
func withWay(t api.BucketTown, way api.BucketWay) api.BucketTown {
	// A clone, since the memory behind the ways is the caller's.
	t.Ways = append(slices.Clone(t.Ways), way)
	return t
}

// divide returns the lacks of a list of any numbers, if it is a division of a
// valid town.
func divide(t api.BucketTown, list []int) (lacks []int, is bool) {
	if len(list) != len(t.Ways) {
		return nil, false
	}
	lack, left := slices.Clone(t.Houses), slices.Clone(t.Wells)
	for n, way := range t.Ways {
		// Before it is subtracted: a number below 0 could exceed an int.
		if list[n] < 0 || list[n] > lack[way.House] || list[n] > left[way.Well] {
			return nil, false
		}
		lack[way.House] -= list[n]
		left[way.Well] -= list[n]
	}
	return descending(lack), true
}

// descending returns a list with the greatest number first.
func descending(list []int) []int {
	list = slices.Clone(list)
	slices.Sort(list)
	slices.Reverse(list)
	return list
}

// sum returns the sum of a list.
func sum(list []int) int {
	all := 0
	for _, n := range list {
		all += n
	}
	return all
}

// housesIn returns the houses of a set, of so many, in which a house is the
// bit of its number.
func housesIn(set, many int) []int {
	var houses []int
	for house := range many {
		if set>>house&1 == 1 {
			houses = append(houses, house)
		}
	}
	return houses
}

// wantTooMuch reports whether some houses want more together than all wells
// have together from which some of them may draw.
func wantTooMuch(t api.BucketTown, houses []int) bool {
	left := 0
	for _, house := range houses {
		left -= t.Houses[house]
	}
	for well, has := range t.Wells {
		mayDraw := func(house int) bool { return hasWay(t, house, well) }
		if slices.ContainsFunc(houses, mayDraw) {
			left += has
		}
	}
	return left < 0
}

// comesFirst reports whether a list has fewer numbers than another one, or as
// many and is less.
func comesFirst(a, b []int) bool {
	if len(a) != len(b) {
		return len(a) < len(b)
	}
	return slices.Compare(a, b) < 0
}
