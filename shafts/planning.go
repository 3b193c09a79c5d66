package shafts

import (
	"iter"

	"steening/api"
)

// way is how all feet below a ring, or below the top, can be lined: what the
// rings cost, and the depth of the next one (0: there are no feet below).
type way struct {
	pence, next int
}

// noWay is the way that there is not.
var noWay = way{pence: -1, next: -1}

// planning is a shaft with the cheapest ways to line it: ways[rings][depth] is
// that of the feet below a depth, with at most so many rings.
type planning struct {
	digging
	ways [1 + api.MaxShaftFeet][1 + api.MaxShaftFeet]way
}

// planningOf returns a valid shaft with its ways.
func planningOf(s api.Shaft) *planning {
	p := &planning{digging: digging{s}}
	for rings := range 1 + len(p.Feet) {
		for depth := range 1 + len(p.Feet) {
			p.ways[rings][depth] = p.cheapest(rings, depth)
		}
	}
	return p
}

// nexts yields the depths below a ring at which the next one can be laid.
func (p *planning) nexts(ring int) iter.Seq[int] {
	return func(yield func(int) bool) {
		for depth := ring + 1; depth <= len(p.Feet) && p.stands(ring, depth); depth++ {
			if _, rests := p.ring(depth); rests && !yield(depth) {
				return
			}
		}
	}
}

// cheapest returns the cheapest way to line the feet below a depth with at
// most so many rings, if those with one ring less are known.
func (p *planning) cheapest(rings, depth int) way {
	if depth == len(p.Feet) {
		return way{}
	}
	best := noWay
	if rings == 0 {
		return best
	}
	for next := range p.nexts(depth) {
		below := p.ways[rings-1][next]
		if below == noWay {
			continue
		}
		ring, _ := p.ring(next)
		if pence := ring + below.pence; best == noWay || pence < best.pence {
			best = way{pence: pence, next: next}
		}
	}
	return best
}

// fewest returns the fewest rings of a plan, and whether there is one.
func (p *planning) fewest() (rings int, is bool) {
	for rings := range 1 + len(p.Feet) {
		if p.ways[rings][0] != noWay {
			return rings, true
		}
	}
	return 0, false
}

// first returns the least plan of at most so many rings, of which there is one.
func (p *planning) first(rings int) []int {
	var plan []int
	depth := 0
	for depth < len(p.Feet) {
		rings--
		for next := range p.nexts(depth) {
			if p.ways[rings][next] != noWay {
				depth = next
				break
			}
		}
		plan = append(plan, depth)
	}
	return plan
}

// pence returns the fewest pence of a plan of at most so many rings, and
// whether there is one.
func (p *planning) pence(rings int) (pence int, is bool) {
	if p.ways[rings][0] == noWay {
		return 0, false
	}
	feet, _ := p.feet()
	return feet + p.ways[rings][0].pence, true
}

// cheap returns the fewest pence of a plan, and whether there is one.
func (p *planning) cheap() (pence int, is bool) {
	return p.pence(len(p.Feet))
}

// plan returns a plan that costs the fewest pence, of which there is one.
func (p *planning) plan() []int {
	var plan []int
	depth := 0
	for rings := len(p.Feet); depth < len(p.Feet); rings-- {
		depth = p.ways[rings][depth].next
		plan = append(plan, depth)
	}
	return plan
}

// ringsWithin returns the most rings, at most one for each foot, for which
// there is time within so many hours, and whether there is time for the feet.
func (p *planning) ringsWithin(hours int) (rings int, is bool) {
	_, feet := p.feet()
	if hours < feet {
		return 0, false
	}
	for rings < len(p.Feet) && (rings+1)*p.Rest <= hours-feet {
		rings++
	}
	return rings, true
}
