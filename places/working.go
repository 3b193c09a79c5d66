package places

import (
	"steening/api"
	"steening/quarrels"
	"steening/shafts"
)

// cost is what the shaft of a spot costs, if it can be dug.
type cost struct {
	pence int
	is    bool
}

// working is a valid town in which some world is left.
type working struct {
	api.PlaceTown
	left  []int  // the worlds that are left, ascending
	costs []cost // one for each spot
}

// work returns a town at work, if it is valid, what is asked for is of it, and
// some world is left.
func work(t api.PlaceTown, isOfTown bool) (*working, api.Errno) {
	if e := check(t, isOfTown); e != api.OK {
		return nil, e
	}
	left, _ := quarrels.Left(t.Quarrel)
	if len(left) == 0 {
		return nil, api.ErrNone
	}
	w := &working{PlaceTown: t, left: left}
	for _, s := range w.Spots {
		pence, e := shafts.Cheap(s.Shaft)
		w.costs = append(w.costs, cost{pence: pence, is: e == api.OK})
	}
	return w, api.OK
}

// forbidsIn reports whether an old well forbids a spot in a world.
func (w *working) forbidsIn(world, spot, well int) bool {
	s := w.Spots[spot]
	return distance(s.At, w.Olds[well]) < w.Far || s.Falls[world][well]*w.Many > w.Harm
}

// forbids returns whether an old well forbids a spot in the worlds that are
// left: surely, never, or perhaps.
func (w *working) forbids(spot, well int) int {
	many := 0
	for _, world := range w.left {
		if w.forbidsIn(world, spot, well) {
			many++
		}
	}
	switch many {
	case 0:
		return api.Never
	case len(w.left):
		return api.Surely
	}
	return api.Perhaps
}

// who returns all old wells that forbid a spot in some world that is left.
func (w *working) who(spot int) []int {
	var wells []int
	for well := range w.Olds {
		if w.forbids(spot, well) != api.Never {
			wells = append(wells, well)
		}
	}
	return wells
}
