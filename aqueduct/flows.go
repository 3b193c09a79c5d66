package aqueduct

import "steening/api"

// flows are, for each point of a line, the least and the greatest flow past it
// in a truth.
type flows []api.Span

// clashOf returns the pair of points that Clash names, if there is one.
func clashOf(d api.DuctLine) (pair api.DuctPair, is bool) {
	for b, later := range d.Points {
		for a := b - 1; a >= 0; a-- {
			if later.Flow.Low > d.Points[a].Flow.High {
				return api.DuctPair{A: a, B: b}, true
			}
		}
	}
	return api.DuctPair{}, false
}

// flowsOf returns the flows of a line without a clash.
func flowsOf(d api.DuctLine) flows {
	var f flows
	for n, p := range d.Points {
		f = append(f, p.Flow)
		if n > 0 {
			f[n].High = min(f[n].High, f[n-1].High)
		}
	}
	for n := len(f) - 2; n >= 0; n-- {
		f[n].Low = max(f[n].Low, f[n+1].Low)
	}
	return f
}

// learn returns the flows of a line, with the errors of all functions that ask
// for truths, in their order.
func learn(d api.DuctLine, isOfLine bool) (flows, api.Errno) {
	if e := check(d, isOfLine); e != api.OK {
		return nil, e
	}
	if _, is := clashOf(d); is {
		return nil, api.ErrNone
	}
	return flowsOf(d), api.OK
}

// lost returns the least and the greatest loss from one point to a later one,
// or to itself.
func (f flows) lost(from, to int) api.Span {
	if from == to {
		// What flows past one point is one number, also where it is not known.
		return api.Span{}
	}
	return api.Span{Low: max(0, f[from].Low-f[to].High), High: f[from].High - f[to].Low}
}

// loss returns the least and the greatest loss of a stretch.
func (f flows) loss(stretch int) api.Span {
	return f.lost(stretch, stretch+1)
}
