package aqueduct

import "steening/api"

// measure says what a gauging is worth.
type measure interface {
	// gauged returns what a way to find the thief among the stretches from a
	// number to another one comes to that begins at a point, if the ways that go
	// on before and behind the point come to so much.
	gauged(from, point, to, before, behind int) int
}

// worst measures what is paid at the worst.
type worst struct {
	api.DuctLine
}

func (w worst) gauged(_, point, _, before, behind int) int {
	return w.Points[point].Cost + max(before, behind)
}

// sum measures what is paid if the thief taps each stretch as many times as its
// odds say.
type sum struct {
	api.DuctLine
}

func (s sum) gauged(from, point, to, before, behind int) int {
	return s.Points[point].Cost*oddsOf(s.DuctLine, from, to) + before + behind
}

// choice is the first point at which the best way begins, and what this way
// comes to; it has no point where one stretch is alone.
type choice struct {
	point, worth int
}

// choices are the choices of all stretches: choices[from][to] is that of the
// stretches from a number to another one.
type choices [api.MaxDuctStretches][1 + api.MaxDuctStretches]choice

// choicesOf returns the choices of a line with so many stretches by a measure.
func choicesOf(m measure, stretches int) *choices {
	var c choices
	// From the end on, so that the choices of fewer stretches are made already.
	for from := stretches - 1; from >= 0; from-- {
		for to := from + 2; to <= stretches; to++ {
			c[from][to] = c.best(m, from, to)
		}
	}
	return &c
}

// best returns the choice of several stretches, if those of fewer ones are made.
func (c *choices) best(m measure, from, to int) choice {
	var best choice
	for point := from + 1; point < to; point++ {
		worth := m.gauged(from, point, to, c[from][point].worth, c[point][to].worth)
		if point == from+1 || worth < best.worth {
			best = choice{point: point, worth: worth}
		}
	}
	return best
}

// path returns the points that are gauged if the thief taps a stretch of the
// first ones.
func (c *choices) path(stretch, stretches int) []int {
	var path []int
	from, to := 0, stretches
	for to-from > 1 {
		point := c[from][to].point
		path = append(path, point)
		if stretch < point {
			to = point
		} else {
			from = point
		}
	}
	return path
}

// atWorst returns the choices of a line by what is paid at the worst.
func atWorst(d api.DuctLine) *choices {
	return choicesOf(worst{d}, len(d.Odds))
}

// onAverage returns the choices of a line by what is paid on the average.
func onAverage(d api.DuctLine) *choices {
	return choicesOf(sum{d}, len(d.Odds))
}

// worstOfAll returns what is paid at the worst if all stretches are asked for.
func worstOfAll(d api.DuctLine) int {
	return atWorst(d)[0][len(d.Odds)].worth
}

// pathTo returns the points that are gauged if the thief taps a stretch.
func pathTo(d api.DuctLine, stretch int) []int {
	return atWorst(d).path(stretch, len(d.Odds))
}

// lowest returns a fraction of numbers from 0 on, Den above 0, in lowest terms.
func lowest(num, den int) api.Ratio {
	a, b := num, den
	for b != 0 {
		a, b = b, a%b
	}
	return api.Ratio{Num: num / a, Den: den / a}
}
