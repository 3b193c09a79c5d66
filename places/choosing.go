package places

import (
	"iter"

	"steening/api"
)

// dug yields all spots that can be dug, ascending.
func (w *working) dug(yield func(spot int) bool) {
	for spot, c := range w.costs {
		if c.is && !yield(spot) {
			return
		}
	}
}

// free yields all spots that are free, ascending.
func (w *working) free(yield func(spot int) bool) {
spots:
	for spot := range w.dug {
		for well := range w.Olds {
			if w.forbids(spot, well) != api.Never {
				continue spots
			}
		}
		if !yield(spot) {
			return
		}
	}
}

// price returns the price of a spot that can be dug.
func (w *working) price(spot int) int {
	return w.costs[spot].pence
}

// whole returns the whole price of a spot that can be dug.
func (w *working) whole(spot int) int {
	pence := w.price(spot)
	for _, well := range w.who(spot) {
		pence += w.Pence[well]
	}
	return pence
}

// least returns the first one of the spots, if there are any, that cost the
// fewest pence.
func least(spots iter.Seq[int], pence func(spot int) int) (best int, is bool) {
	for spot := range spots {
		if !is || pence(spot) < pence(best) {
			best, is = spot, true
		}
	}
	return best, is
}

// best returns the free spot with the least price, if any is free.
func (w *working) best() (spot int, is bool) {
	return least(w.free, w.price)
}

// cheapest returns the spot with the least whole price, if any can be dug.
func (w *working) cheapest() (spot int, is bool) {
	return least(w.dug, w.whole)
}

// loosen returns the least Harm, if there is one, with which some spot would be
// free.
func (w *working) loosen() (harm int, is bool) {
	looser := *w
	for harm := range 1 + api.MaxPlaceHarm {
		looser.Harm = harm
		if _, is := looser.best(); is {
			return harm, true
		}
	}
	return 0, false
}

// pair returns two spots, if there are such, that can be dug and are not too
// near to each other, with the least whole prices together.
func (w *working) pair() (one, other int, is bool) {
	fewest := 0
	for a := range w.dug {
		for b := range w.dug {
			if a >= b || distance(w.Spots[a].At, w.Spots[b].At) < w.Far {
				continue
			}
			if pence := w.whole(a) + w.whole(b); !is || pence < fewest {
				one, other, fewest, is = a, b, pence, true
			}
		}
	}
	return one, other, is
}
