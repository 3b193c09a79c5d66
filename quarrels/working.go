package quarrels

import (
	"slices"

	"steening/api"
)

// working is a town of which some world is left.
type working struct {
	api.QuarrelTown
	left   worlds
	enough map[worlds]int // how many tests are enough if only these are left
}

// work returns a town at work, if it is valid, what is asked for is of it, and
// some world is left.
func work(t api.QuarrelTown, isOfTown bool) (*working, api.Errno) {
	if !valid(t) {
		return nil, api.ErrQuarrel
	}
	if !isOfTown {
		return nil, api.ErrArg
	}
	left := leftOf(t)
	if left.count() == 0 {
		return nil, api.ErrNone
	}
	return &working{QuarrelTown: t, left: left, enough: make(map[worlds]int)}, api.OK
}

// fall returns by how many feet a well falls by another one in a world.
func (w *working) fall(world, from, to int) int {
	return w.Worlds[world].Falls[from][to]
}

// span returns the least and the greatest number of feet in the worlds that
// are left.
func (w *working) span(feet func(world int) int) api.Span {
	var all []int
	for world := range w.left.each {
		all = append(all, feet(world))
	}
	return api.Span{Low: slices.Min(all), High: slices.Max(all)}
}

// between returns the least and the greatest fall of a well by another one.
func (w *working) between(from, to int) api.Span {
	return w.span(func(world int) int { return w.fall(world, from, to) })
}

// harms returns whether the fall of a well by another one is greater than a
// law: surely, never, or perhaps.
func (w *working) harms(from, to, law int) int {
	fall := w.between(from, to)
	switch {
	case fall.Low > law:
		return api.Surely
	case fall.High <= law:
		return api.Never
	}
	return api.Perhaps
}

// total returns the least and the greatest number of feet by which all wells
// together lower a well.
func (w *working) total(draws []int, well int) api.Span {
	return w.span(func(world int) int {
		sum := 0
		for from, many := range draws {
			sum += many * w.fall(world, from, well)
		}
		return sum
	})
}

// blame returns the one well, if there is one, that lowers a well by the most,
// but for the well itself, in each world that is left.
func (w *working) blame(draws []int, well int) (from int, is bool) {
wells:
	for from := range draws {
		if from == well {
			continue
		}
		for world := range w.left.each {
			if !w.isWorst(world, draws, from, well) {
				continue wells
			}
		}
		return from, true
	}
	return 0, false
}

// isWorst reports whether one well lowers a well by more than each other one
// but the well itself, and by more than 0, in a world.
func (w *working) isWorst(world int, draws []int, from, well int) bool {
	lowers := draws[from] * w.fall(world, from, well)
	if lowers == 0 {
		return false
	}
	for other, many := range draws {
		if other != from && other != well && many*w.fall(world, other, well) >= lowers {
			return false
		}
	}
	return true
}
