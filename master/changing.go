package master

import (
	"cmp"
	"slices"

	"steening/api"
)

// change changes a town by some numbers, and reports whether it can. It writes
// into no list of the town: the caller, and the tries that are open, have the
// same ones.
type change func(t *api.MasterTown, n []int) bool

// changes returns the kinds of lines that change the town.
func changes() []kind {
	return []kind{
		{"rock", 4, changing(rock)},
		{"foot", 1, changing(foot)},
		{"up", 0, changing(up)},
		{"house", 1, changing(house)},
		{"well", 1, changing(well)},
		{"want", 2, changing(want)},
		{"has", 2, changing(has)},
		{"way", 2, changing(way)},
		{"day", 3, changing(day)},
		{"size", 1, changing(size)},
	}
}

// changing returns how a line is done that changes the town.
func changing(by change) deed {
	return func(w *working, numbers []int) result {
		town := w.town
		if !by(&town, numbers) || Check(town) != api.OK {
			return refused
		}
		w.town = town
		return done
	}
}

func rock(t *api.MasterTown, n []int) bool {
	t.Shaft.Rocks = behind(t.Shaft.Rocks, api.ShaftRock{Hours: n[0], Pence: n[1], Stand: n[2], Seat: n[3]})
	return true
}

func foot(t *api.MasterTown, n []int) bool {
	t.Shaft.Feet = behind(t.Shaft.Feet, n[0])
	return true
}

func up(t *api.MasterTown, _ []int) bool {
	above := len(t.Shaft.Feet) - 1
	if above < 0 {
		return false
	}
	t.Shaft.Feet = t.Shaft.Feet[:above]
	return true
}

func house(t *api.MasterTown, n []int) bool {
	t.Buckets.Houses = behind(t.Buckets.Houses, n[0])
	return true
}

func well(t *api.MasterTown, n []int) bool {
	t.Buckets.Wells = behind(t.Buckets.Wells, n[0])
	return true
}

func want(t *api.MasterTown, n []int) (is bool) {
	t.Buckets.Houses, is = instead(t.Buckets.Houses, n[0], n[1])
	return is
}

func has(t *api.MasterTown, n []int) (is bool) {
	t.Buckets.Wells, is = instead(t.Buckets.Wells, n[0], n[1])
	return is
}

func way(t *api.MasterTown, n []int) bool {
	t.Buckets.Ways = behind(t.Buckets.Ways, api.BucketWay{House: n[0], Well: n[1]})
	slices.SortFunc(t.Buckets.Ways, func(a, b api.BucketWay) int {
		return cmp.Or(cmp.Compare(a.House, b.House), cmp.Compare(a.Well, b.Well))
	})
	return true
}

func day(t *api.MasterTown, n []int) bool {
	t.Year.Days = behind(t.Year.Days, api.CisternDay{Rain: api.Span{Low: n[0], High: n[1]}, Want: n[2]})
	return true
}

func size(t *api.MasterTown, n []int) bool {
	t.Year.Size = n[0]
	return true
}

// behind returns a new list with one more element behind others.
func behind[T any](others []T, one T) []T {
	return append(slices.Clone(others), one)
}

// instead returns a new list with another number in a place, if the list has
// this place.
func instead(numbers []int, place, n int) (others []int, is bool) {
	if place < 0 || place >= len(numbers) {
		return nil, false
	}
	others = slices.Clone(numbers)
	others[place] = n
	return others, true
}

// apart returns a town whose lists share no memory with those of another one, or
// with each other.
func apart(t api.MasterTown) api.MasterTown {
	t.Shaft.Rocks, t.Shaft.Feet = slices.Clone(t.Shaft.Rocks), slices.Clone(t.Shaft.Feet)
	t.Buckets.Houses, t.Buckets.Wells = slices.Clone(t.Buckets.Houses), slices.Clone(t.Buckets.Wells)
	t.Buckets.Ways = slices.Clone(t.Buckets.Ways)
	t.Year.Days = slices.Clone(t.Year.Days)
	return t
}
