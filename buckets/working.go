package buckets

import (
	"slices"

	"steening/api"
)

// wish is which houses come first of those that lack as much.
type wish struct {
	first [api.MaxBucketHouses]bool
}

// wishFor returns the wish for some houses.
func wishFor(isOne func(house int) bool) wish {
	var w wish
	for house := range w.first {
		w.first[house] = isOne(house)
	}
	return w
}

// working is a town whose buckets are drawn, one after the other.
type working struct {
	api.BucketTown
	wish
	draws  []int // what is drawn by each way
	lacks  []int // what each house lacks
	left   []int // what each well has left
	closed [api.MaxBucketHouses]bool
}

// fairest returns a town whose buckets are drawn as fairly as can be, and of
// all such divisions so that the houses of a wish draw the most together.
func fairest(t api.BucketTown, wished wish) *working {
	w := &working{
		BucketTown: t,
		wish:       wished,
		draws:      make([]int, len(t.Ways)),
		lacks:      slices.Clone(t.Houses),
		left:       slices.Clone(t.Wells),
	}
	for house := range w.steps {
		w.lacks[house]--
	}
	return w
}

// steps yields each house to which a bucket is brought, one after the other,
// until none can have one more.
func (w *working) steps(yield func(house int) bool) {
	for range sum(w.Houses) {
		house, is := w.serve()
		if !is || !yield(house) {
			return
		}
	}
}

// serve brings a bucket to the first house that can have one more.
func (w *working) serve() (house int, is bool) {
	for house, is = w.next(); is; house, is = w.next() {
		var asked [api.MaxBucketWells]bool
		if w.bring(house, &asked) {
			return house, true
		}
		// What a house cannot have besides what all have now it cannot have
		// later either, since nobody gets less.
		w.closed[house] = true
	}
	return 0, false
}

// next returns the first house that is to be brought a bucket, if there is one.
func (w *working) next() (house int, is bool) {
	for h, lack := range w.lacks {
		if lack == 0 || w.closed[h] {
			continue
		}
		if !is || w.isBefore(h, house) {
			house, is = h, true
		}
	}
	return house, is
}

// isBefore reports whether a house is brought a bucket before another one.
func (w *working) isBefore(a, b int) bool {
	if w.lacks[a] != w.lacks[b] {
		return w.lacks[a] > w.lacks[b]
	}
	return w.first[a] && !w.first[b]
}

// bring brings one bucket more to a house, from a well that has not been asked
// yet, if it can do so without another house's loss.
func (w *working) bring(house int, asked *[api.MaxBucketWells]bool) bool {
	for n, way := range w.Ways {
		if way.House != house || asked[way.Well] {
			continue
		}
		asked[way.Well] = true
		if w.spare(way.Well, asked) {
			w.draws[n]++
			w.left[way.Well]--
			return true
		}
	}
	return false
}

// spare sees to it that a well has a bucket left, if it can: a house that draws
// from it is brought one from another well instead.
func (w *working) spare(well int, asked *[api.MaxBucketWells]bool) bool {
	if w.left[well] > 0 {
		return true
	}
	for n, way := range w.Ways {
		if way.Well == well && w.draws[n] > 0 && w.bring(way.House, asked) {
			w.draws[n]--
			w.left[well]++
			return true
		}
	}
	return false
}

// drawn returns how many buckets a house draws.
func (w *working) drawn(house int) int {
	return w.Houses[house] - w.lacks[house]
}

// lacksOf returns the lacks of the fairest divisions.
func lacksOf(t api.BucketTown) []int {
	return descending(fairest(t, wish{}).lacks)
}

// needsAll reports whether a well gives all that it has in each fairest division.
func needsAll(t api.BucketTown, well int) bool {
	if t.Wells[well] == 0 {
		return true
	}
	// The divisions with one bucket less in it are those in which it does not
	// give all.
	return !slices.Equal(lacksOf(withBuckets(t, well, -1)), lacksOf(t))
}

// canGiveAll reports whether a well gives all that it has in some fairest division.
func canGiveAll(t api.BucketTown, well int) bool {
	// While it has a bucket left each house that may draw from it has all that
	// it wants, and can draw that from this well first.
	wanted := 0
	for house, wants := range t.Houses {
		if hasWay(t, house, well) {
			wanted += wants
		}
	}
	return wanted >= t.Wells[well]
}
