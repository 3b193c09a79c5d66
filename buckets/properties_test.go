package buckets_test

import (
	"math/rand"
	"slices"
	"testing"

	"steening/api"
	"steening/buckets"
)

func TestP3_12EachDivision(t *testing.T) {
	eachSmall(12, func(town api.BucketTown, all [][]int) {
		fair, _ := buckets.Fair(town)
		its, good, _ := buckets.Good(town, fair)
		worst, _ := buckets.Worst(town)
		if !good || !slices.Equal(its, lacksOf(town)) {
			t.Errorf("%v: Fair = %v with the lacks %v, %v, and Lacks = %v", town, fair, its, good, lacksOf(town))
		}
		for _, division := range all {
			lacks, good, e := buckets.Good(town, division)
			if !good || e != api.OK || isFairer(lacks, its) || total(division) > mostDrawn(town) || len(lacks) > 0 && lacks[0] < worst {
				t.Errorf("%v: a division %v with the lacks %v, %v, %d", town, division, lacks, good, e)
			}
		}
	})
}

func TestP3_13NothingIsLost(t *testing.T) {
	eachSmall(13, func(town api.BucketTown, all [][]int) {
		fairest, _ := fairestOf(town, all)
		for _, division := range fairest {
			if total(division) != mostDrawn(town) {
				t.Errorf("Most(%v) = %d, and not of %v", town, mostDrawn(town), division)
			}
		}
	})
	eachBig(13, func(_ *rand.Rand, town api.BucketTown) {
		fair, _ := buckets.Fair(town)
		if most := mostDrawn(town); total(lacksOf(town)) != total(town.Houses)-most || total(fair) != most {
			t.Errorf("%v: Lacks = %v, Fair = %v, Most = %d", town, lacksOf(town), fair, most)
		}
	})
}

func TestP3_14OneBucketMore(t *testing.T) {
	greater, fairer := 0, 0
	eachBig(14, func(r *rand.Rand, town api.BucketTown) {
		lacks, most := lacksOf(town), mostDrawn(town)
		check := func(more api.BucketTown, by int) {
			if isFairer(lacks, lacksOf(more)) || mostDrawn(more) < most || mostDrawn(more) > most+by {
				t.Errorf("%v: Lacks = %v, Most = %d; with more %v, %d", town, lacks, most, lacksOf(more), mostDrawn(more))
			}
			if mostDrawn(more) > most {
				greater++
			}
			if isFairer(lacksOf(more), lacks) {
				fairer++
			}
		}
		for well := range town.Wells {
			if more := richer(town, well); buckets.Check(more) == api.OK {
				check(more, 1)
			}
			for house := range town.Houses {
				if more := wider(town, house, well); buckets.Check(more) == api.OK {
					check(more, api.MaxBucketWant)
				}
			}
		}
	})
	if greater < 100 || fairer < greater {
		t.Errorf("not all was tried: %d, %d", greater, fairer)
	}
}

// canAll reports whether all houses of a town can have what they want.
func canAll(t api.BucketTown) bool {
	return mostDrawn(t) == total(t.Houses)
}

// onlyThese returns a town in which all houses want nothing but some of them.
func onlyThese(t api.BucketTown, houses []int) api.BucketTown {
	t = clone(t)
	for house := range t.Houses {
		if !slices.Contains(houses, house) {
			t.Houses[house] = 0
		}
	}
	return t
}

func TestP3_15WhoIsShort(t *testing.T) {
	eachBig(15, func(_ *rand.Rand, town api.BucketTown) {
		short, e := buckets.Short(town)
		worst, _ := buckets.Worst(town)
		if (e == api.OK) != (worst != 0) || (e == api.ErrNone) != (worst == 0) {
			t.Errorf("%v: Short = %v, %d; Worst = %d", town, short, e, worst)
		}
		if e != api.OK {
			return
		}
		if canAll(onlyThese(town, short)) {
			t.Errorf("Short(%v) = %v, and these can have what they want", town, short)
		}
		for set := range 1 << len(town.Houses) {
			var fewer []int
			for house := range town.Houses {
				if set>>house&1 == 1 {
					fewer = append(fewer, house)
				}
			}
			if len(fewer) < len(short) && !canAll(onlyThese(town, fewer)) {
				t.Errorf("Short(%v) = %v, and %v cannot have what they want either", town, short, fewer)
			}
		}
	})
}

func TestP3_16AHouse(t *testing.T) {
	more := 0
	eachBig(16, func(_ *rand.Rand, town api.BucketTown) {
		lacks := lacksOf(town)
		for house, wants := range town.Houses {
			s, e := buckets.House(town, house)
			if e != api.OK || !slices.Contains(lacks, wants-s.Low) || !slices.Contains(lacks, wants-s.High) || s.High < s.Low || s.High > s.Low+1 {
				t.Errorf("House(%v, %d) = %v, %d; Lacks = %v", town, house, s, e, lacks)
			}
			if s.High > s.Low {
				more++
			}
		}
	})
	if more < 100 {
		t.Errorf("only %d houses could draw more", more)
	}
}

// shuffled returns a town in which the house, or well, n is the one of the
// number houses[n], or wells[n], in another one.
func shuffled(t api.BucketTown, houses, wells []int) api.BucketTown {
	other := clone(t)
	for n, at := range houses {
		other.Houses[at] = t.Houses[n]
	}
	for n, at := range wells {
		other.Wells[at] = t.Wells[n]
	}
	for n, way := range t.Ways {
		other.Ways[n] = api.BucketWay{House: houses[way.House], Well: wells[way.Well]}
	}
	other.Ways = inOrder(other.Ways)
	return other
}

// upward returns the numbers below another one in their order.
func upward(many int) []int {
	list := make([]int, many)
	for n := range list {
		list[n] = n
	}
	return list
}

func TestP3_17AnyOrder(t *testing.T) {
	eachBig(17, func(r *rand.Rand, town api.BucketTown) {
		wells := shuffled(town, upward(len(town.Houses)), r.Perm(len(town.Wells)))
		short, e := buckets.Short(town)
		other, f := buckets.Short(wells)
		if !slices.Equal(lacksOf(wells), lacksOf(town)) || !slices.Equal(short, other) || e != f {
			t.Errorf("%v: Lacks = %v, Short = %v, %d; with other wells %v, %v, %d", town, lacksOf(town), short, e, lacksOf(wells), other, f)
		}
		places := r.Perm(len(town.Houses))
		houses := shuffled(town, places, upward(len(town.Wells)))
		if !slices.Equal(lacksOf(houses), lacksOf(town)) {
			t.Errorf("%v: Lacks = %v, with other houses %v", town, lacksOf(town), lacksOf(houses))
		}
		for house, at := range places {
			s, e := buckets.House(town, house)
			if o, f := buckets.House(houses, at); s != o || e != f {
				t.Errorf("%v: House of %d = %v, %d, with other houses %v, %d", town, house, s, e, o, f)
			}
		}
	})
}

// beside returns two towns as one, with no ways between them.
func beside(a, b api.BucketTown) api.BucketTown {
	both := clone(a)
	both.Houses = append(both.Houses, b.Houses...)
	both.Wells = append(both.Wells, b.Wells...)
	for _, way := range b.Ways {
		both.Ways = append(both.Ways, api.BucketWay{House: way.House + len(a.Houses), Well: way.Well + len(a.Wells)})
	}
	return both
}

func TestP3_18SideBySide(t *testing.T) {
	r := rand.New(rand.NewSource(18))
	for range 1500 {
		a := someTown(r, 3, 3, 6, api.MaxBucketWant, 9)
		b := someTown(r, 3, 2, 6, api.MaxBucketWant, 9)
		both := beside(a, b)
		want := append(slices.Clone(lacksOf(a)), lacksOf(b)...)
		slices.SortFunc(want, func(a, b int) int { return b - a })
		lacks, e := buckets.Lacks(both)
		most, f := buckets.Most(both)
		if !slices.Equal(lacks, want) || most != mostDrawn(a)+mostDrawn(b) || e != api.OK || f != api.OK {
			t.Errorf("%v, %v: Lacks = %v, %d, not %v; Most = %d, %d", a, b, lacks, e, want, most, f)
		}
	}
}

func TestP3_19DryWells(t *testing.T) {
	nothing, helpful := 0, 0
	eachBig(19, func(_ *rand.Rand, town api.BucketTown) {
		helps, _ := buckets.Helps(town)
		for well, has := range town.Wells {
			dry, e := buckets.Dry(town, well)
			if has == 0 {
				nothing++
			}
			if slices.Contains(helps, well) && has > 0 {
				helpful++
			}
			if (has == 0 || slices.Contains(helps, well)) && (dry != api.Surely || e != api.OK) {
				t.Errorf("%v: Dry of %d = %d, %d; Helps = %v", town, well, dry, e, helps)
			}
		}
	})
	if nothing < 100 || helpful < 100 {
		t.Errorf("not all was tried: %d, %d", nothing, helpful)
	}
}
