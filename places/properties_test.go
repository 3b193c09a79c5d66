package places_test

import (
	"math/rand"
	"slices"
	"testing"

	"steening/api"
	"steening/places"
)

// isWithin reports whether each number of a list is in another one.
func isWithin(list, other []int) bool {
	return !slices.ContainsFunc(list, func(n int) bool { return !slices.Contains(other, n) })
}

// noGreater reports whether a number that is there is not greater than another
// one, if that is there.
func noGreater(n, other int) bool {
	return other == undug || n != undug && n <= other
}

// bestPriceOf and cheapestWholeOf return the price of Best, and the whole price
// of Cheapest, undug if there is none.
func bestPriceOf(t api.PlaceTown) int {
	if best := bestOf(t); best != undug {
		return priceOf(t, best)
	}
	return undug
}

func cheapestWholeOf(t api.PlaceTown) int {
	if cheapest := cheapestOf(t); cheapest != undug {
		return wholeOf(t, cheapest)
	}
	return undug
}

func TestP9_13EachWorld(t *testing.T) {
	free, forbidden := 0, 0
	eachLeft(13, 1000, 3, func(_ *rand.Rand, town api.PlaceTown) {
		for n := range town.Spots {
			who := whoOf(town, n)
			for _, world := range leftIn(town) {
				forbid := forbidIn(town, world, n)
				if !isWithin(forbid, who) {
					t.Errorf("%v: in the world %d %v forbid %d, Who = %v", town, world, forbid, n, who)
				}
				for well := range town.Olds {
					forbids, is := forbidsOf(town, n, well), slices.Contains(forbid, well)
					if forbids == api.Surely && !is || forbids == api.Never && is {
						t.Errorf("%v: in the world %d %v forbid %d, Forbids of %d = %d", town, world, forbid, n, well, forbids)
					}
				}
			}
			if priceOf(town, n) == undug {
				continue
			}
			if len(who) == 0 {
				free++
			} else {
				forbidden++
			}
			if slices.Contains(freeOf(town), n) != (len(who) == 0) {
				t.Errorf("%v: Free = %v, Who of %d = %v", town, freeOf(town), n, who)
			}
		}
	})
	if free < 300 || forbidden < 300 {
		t.Errorf("not all was tried: %d, %d", free, forbidden)
	}
}

func TestP9_14OneFactMore(t *testing.T) {
	fewer, freer, cheaper := 0, 0, 0
	eachLeft(14, 3000, 3, func(r *rand.Rand, town api.PlaceTown) {
		if town.Quarrel.Wells == 0 {
			return
		}
		more := with(town, func(t *api.PlaceTown) { t.Quarrel.Facts = append(t.Quarrel.Facts, someFact(r, *t)) })
		if len(leftIn(more)) == 0 {
			return
		}
		if !isWithin(freeOf(town), freeOf(more)) {
			t.Errorf("%v: Free = %v, and %v with %v", town, freeOf(town), freeOf(more), more.Quarrel.Facts)
		}
		if len(freeOf(more)) > len(freeOf(town)) {
			freer++
		}
		for n := range town.Spots {
			before, after := whoOf(town, n), whoOf(more, n)
			if !isWithin(after, before) || wholeOf(more, n) > wholeOf(town, n) {
				t.Errorf("%v: Who of %d = %v, Whole = %d, and %v, %d with %v", town, n, before, wholeOf(town, n), after, wholeOf(more, n), more.Quarrel.Facts)
			}
			if len(after) < len(before) {
				fewer++
			}
			if wholeOf(more, n) < wholeOf(town, n) {
				cheaper++
			}
		}
	})
	if fewer < 100 || freer < 30 || cheaper < 100 {
		t.Errorf("not all was tried: %d, %d, %d", fewer, freer, cheaper)
	}
}

func TestP9_15ALooserLaw(t *testing.T) {
	var fewer, best, cheapest [3]int
	eachLeft(15, 3000, 2, func(r *rand.Rand, town api.PlaceTown) {
		for n, change := range []func(t *api.PlaceTown){
			func(t *api.PlaceTown) { t.Far = r.Intn(t.Far + 1) },
			func(t *api.PlaceTown) { t.Harm += r.Intn(api.MaxPlaceHarm + 1 - t.Harm) },
			func(t *api.PlaceTown) { t.Many = r.Intn(t.Many + 1) },
		} {
			looser := with(town, change)
			for spot := range town.Spots {
				before, after := whoOf(town, spot), whoOf(looser, spot)
				if !isWithin(after, before) {
					t.Errorf("%v, %d: Who of %d = %v, and then %v", town, n, spot, before, after)
				}
				if len(after) < len(before) {
					fewer[n]++
				}
			}
			if !isWithin(freeOf(town), freeOf(looser)) {
				t.Errorf("%v, %d: Free = %v, and then %v", town, n, freeOf(town), freeOf(looser))
			}
			a, b, c, d := bestPriceOf(town), bestPriceOf(looser), cheapestWholeOf(town), cheapestWholeOf(looser)
			if !noGreater(b, a) || !noGreater(d, c) {
				t.Errorf("%v, %d: the price of Best = %d, and then %d; the whole price of Cheapest = %d, and then %d", town, n, a, b, c, d)
			}
			if a != b {
				best[n]++
			}
			if c != d {
				cheapest[n]++
			}
		}
	})
	for n := range 3 {
		if fewer[n] < 100 || best[n] < 50 || cheapest[n] < 50 {
			t.Errorf("not all was tried: %v, %v, %v", fewer, best, cheapest)
		}
	}
}

func TestP9_16BestAndCheapest(t *testing.T) {
	less := 0
	eachLeft(16, 2000, 2, func(_ *rand.Rand, town api.PlaceTown) {
		free, best, cheapest := freeOf(town), bestPriceOf(town), cheapestWholeOf(town)
		if len(free) > 0 && !slices.Contains(free, bestOf(town)) || (best == undug) != (len(free) == 0) {
			t.Errorf("%v: Free = %v, Best = %d", town, free, bestOf(town))
		}
		for _, n := range free {
			if priceOf(town, n) < best {
				t.Errorf("%v: the price of Best = %d, of %d = %d", town, best, n, priceOf(town, n))
			}
		}
		for n := range town.Spots {
			if !noGreater(cheapest, wholeOf(town, n)) {
				t.Errorf("%v: the whole price of Cheapest = %d, of %d = %d", town, cheapest, n, wholeOf(town, n))
			}
		}
		if !noGreater(cheapest, best) {
			t.Errorf("%v: the whole price of Cheapest = %d, the price of Best = %d", town, cheapest, best)
		}
		if cheapest < best {
			less++
		}
	})
	if less < 100 {
		t.Errorf("only %d times Cheapest was cheaper than Best", less)
	}
}

// isKnown reports whether of all old wells it is known whether they forbid a spot.
func isKnown(t api.PlaceTown, spot int) bool {
	for well := range t.Olds {
		if forbids, e := places.Forbids(t, spot, well); forbids == api.Perhaps || e != api.OK {
			return false
		}
	}
	return true
}

func TestP9_17WhoDecides(t *testing.T) {
	decided, needless := 0, 0
	eachLeft(17, 2000, 1, func(_ *rand.Rand, town api.PlaceTown) {
		for n := range town.Spots {
			list, e := places.Decide(town, n)
			if (e == api.OK && len(list) == 0) != isKnown(town, n) {
				t.Errorf("%v: Decide of %d = %v, %d", town, n, list, e)
			}
			if e != api.OK {
				continue
			}
			if len(list) == 0 {
				needless++
			}
			for _, world := range leftIn(town) {
				more := with(town, func(t *api.PlaceTown) {
					for _, test := range list {
						t.Quarrel.Facts = append(t.Quarrel.Facts, fact(test.From, test.To, shownIn(town, world, test)))
					}
				})
				if !isKnown(more, n) {
					t.Errorf("%v: Decide of %d = %v, but in the world %d it is not known", town, n, list, world)
				}
				if len(list) > 0 {
					decided++
				}
			}
		}
	})
	if decided < 500 || needless < 500 {
		t.Errorf("not all was tried: %d, %d", decided, needless)
	}
}

func TestP9_18OneSpotMore(t *testing.T) {
	best, cheapest, pairs := 0, 0, 0
	eachLeft(18, 3000, 2, func(r *rand.Rand, town api.PlaceTown) {
		if len(town.Spots) == api.MaxPlaceSpots {
			return
		}
		more := with(town, func(t *api.PlaceTown) {
			t.Spots = slices.Insert(t.Spots, r.Intn(len(t.Spots)+1), someSpot(r, *t, 100))
		})
		for n, x := range [][2]int{
			{bestPriceOf(town), bestPriceOf(more)},
			{cheapestWholeOf(town), cheapestWholeOf(more)},
			{pairOf(town), pairOf(more)},
		} {
			if !noGreater(x[1], x[0]) {
				t.Errorf("%v, %v: %d: %v", town, more.Spots, n, x)
			}
			if x[0] != undug && x[1] < x[0] {
				*[]*int{&best, &cheapest, &pairs}[n]++
			}
		}
	})
	if best < 50 || cheapest < 100 || pairs < 100 {
		t.Errorf("not all was tried: %d, %d, %d", best, cheapest, pairs)
	}
}

func TestP9_19Loosen(t *testing.T) {
	enough, none := 0, 0
	eachLeft(19, 1500, 2, func(_ *rand.Rand, town api.PlaceTown) {
		harm, isBest := loosenOf(town), bestOf(town) != undug
		if isBest != (harm != undug && harm <= town.Harm) {
			t.Errorf("%v: Loosen = %d, Best = %d", town, harm, bestOf(town))
		}
		if isBest {
			enough++
		}
		last := harm
		if harm == undug {
			none++
			last = api.MaxPlaceHarm + 1
		}
		for n := range min(last+1, api.MaxPlaceHarm+1) {
			free := freeOf(with(town, func(t *api.PlaceTown) { t.Harm = n }))
			if (len(free) > 0) != (n == harm) {
				t.Errorf("%v: Loosen = %d, but with %d Free = %v", town, harm, n, free)
			}
		}
	})
	if enough < 200 || none < 100 {
		t.Errorf("not all was tried: %d, %d", enough, none)
	}
}

// turned returns a town that is seen from the other end of the street.
func turned(t api.PlaceTown) api.PlaceTown {
	return with(t, func(t *api.PlaceTown) {
		for n, at := range t.Olds {
			t.Olds[n] = api.MaxPlaceAt - at
		}
		for n, s := range t.Spots {
			t.Spots[n].At = api.MaxPlaceAt - s.At
		}
	})
}

func TestP9_20TheStreet(t *testing.T) {
	eachTown(20, 2000, 2, func(_ *rand.Rand, town api.PlaceTown) {
		other := turned(town)
		for n := range town.Spots {
			near, e := places.Near(town, n)
			its, f := places.Near(other, n)
			who, g := places.Who(town, n)
			their, h := places.Who(other, n)
			if near != its || e != f || !slices.Equal(who, their) || g != h {
				t.Errorf("%v: Near of %d = %d, %d; %d, %d; Who = %v, %d; %v, %d", town, n, near, e, its, f, who, g, their, h)
			}
		}
		free, e := places.Free(town)
		same, f := places.Free(other)
		a, b, g := places.Pair(town)
		c, d, h := places.Pair(other)
		if !slices.Equal(free, same) || e != f || a != c || b != d || g != h {
			t.Errorf("%v: Free = %v, %d; %v, %d; Pair = %d %d, %d; %d %d, %d", town, free, e, same, f, a, b, g, c, d, h)
		}
		if bestOf(town) != bestOf(other) || cheapestOf(town) != cheapestOf(other) {
			t.Errorf("%v: Best = %d, %d; Cheapest = %d, %d", town, bestOf(town), bestOf(other), cheapestOf(town), cheapestOf(other))
		}
	})
}
