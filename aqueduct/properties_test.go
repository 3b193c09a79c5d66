package aqueduct_test

import (
	"math/rand"
	"slices"
	"testing"

	"steening/api"
	"steening/aqueduct"
)

// isWithin reports whether a span is within another one.
func isWithin(a, b api.Span) bool {
	return b.Low <= a.Low && a.High <= b.High
}

// has reports whether a number is in a span.
func has(s api.Span, n int) bool {
	return isWithin(span(n, n), s)
}

func TestP6_13EachTruth(t *testing.T) {
	without := 0
	eachLine(13, 1500, func(_ *rand.Rand, d api.DuctLine) {
		all := truths(d)
		if _, e := aqueduct.Clash(d); (e == api.ErrNone) != (len(all) > 0) {
			t.Errorf("%v has %d truths, Clash says %d", d, len(all), e)
		}
		if len(all) == 0 {
			without++
			return
		}
		var flows, losses []api.Span
		for point := range d.Points {
			flows = append(flows, flowOf(d, point))
		}
		for stretch := range d.Odds {
			losses = append(losses, lossOf(d, stretch))
			if flows[stretch+1].Low > flows[stretch].Low || flows[stretch+1].High > flows[stretch].High {
				t.Errorf("%v: Flow = %v from point to point", d, flows)
			}
		}
		whole := wholeOf(d)
		for _, truth := range all {
			sum := 0
			for stretch, loss := range losses {
				lost := truth[stretch] - truth[stretch+1]
				sum += lost
				if !has(loss, lost) {
					t.Errorf("%v: %v is a truth, Loss of %d = %v", d, truth, stretch, loss)
				}
			}
			for point, flow := range flows {
				if !has(flow, truth[point]) {
					t.Errorf("%v: %v is a truth, Flow of %d = %v", d, truth, point, flow)
				}
			}
			if !has(whole, sum) {
				t.Errorf("%v: %v is a truth, Whole = %v", d, truth, whole)
			}
		}
	})
	if without < 100 {
		t.Errorf("only %d lines without a truth were tried", without)
	}
}

// narrowed returns a line in which the flow of a point is narrower.
func narrowed(r *rand.Rand, d api.DuctLine, point int) api.DuctLine {
	return with(d, func(d *api.DuctLine) {
		flow := &d.Points[point].Flow
		flow.Low += r.Intn(flow.High - flow.Low + 1)
		flow.High -= r.Intn(flow.High - flow.Low + 1)
	})
}

func TestP6_14OneMoreGauging(t *testing.T) {
	narrower, known := 0, 0
	eachLine(14, 4000, func(r *rand.Rand, d api.DuctLine) {
		more := narrowed(r, d, r.Intn(len(d.Points)))
		if _, e := aqueduct.Clash(more); e != api.ErrNone {
			return
		}
		if !isWithin(wholeOf(more), wholeOf(d)) {
			t.Errorf("%v: Whole = %v, and %v with %v", d, wholeOf(d), wholeOf(more), more)
		}
		for point := range d.Points {
			if !isWithin(flowOf(more, point), flowOf(d, point)) {
				t.Errorf("%v: Flow of %d = %v, and %v with %v", d, point, flowOf(d, point), flowOf(more, point), more)
			}
			if flowOf(more, point) != flowOf(d, point) {
				narrower++
			}
		}
		for stretch := range d.Odds {
			if !isWithin(lossOf(more, stretch), lossOf(d, stretch)) {
				t.Errorf("%v: Loss of %d = %v, and %v with %v", d, stretch, lossOf(d, stretch), lossOf(more, stretch), more)
			}
			was, is := lossyOf(d, stretch), lossyOf(more, stretch)
			if was != api.Perhaps && is != was {
				t.Errorf("%v: Lossy of %d = %d, and %d with %v", d, stretch, was, is, more)
			}
			if was != is {
				known++
			}
		}
	})
	if narrower < 1000 || known < 100 {
		t.Errorf("not all was tried: %d, %d", narrower, known)
	}
}

func TestP6_15EachPath(t *testing.T) {
	eachLine(15, 2000, func(_ *rand.Rand, d api.DuctLine) {
		if len(d.Odds) == 0 {
			return
		}
		worst, most := worstOf(d, 0, len(d.Odds)), 0
		for stretch := range d.Odds {
			most = max(most, paidOf(d, stretch))
			path := pathOf(d, stretch)
			if stretch > 0 && !slices.Contains(path, stretch) || stretch+1 < len(d.Odds) && !slices.Contains(path, stretch+1) {
				t.Errorf("%v: Path of %d = %v does not part it from its neighbours", d, stretch, path)
			}
		}
		if most != worst {
			t.Errorf("%v: Worst = %d, but %d is paid at the most", d, worst, most)
		}
	})
}

func TestP6_16FewerStretches(t *testing.T) {
	eachLine(16, 2000, func(_ *rand.Rand, d api.DuctLine) {
		eachSome(d, func(from, to int) {
			worst := worstOf(d, from, to)
			if from > 0 && worst > worstOf(d, from-1, to) || to < len(d.Odds) && worst > worstOf(d, from, to+1) {
				t.Errorf("%v: Worst of %d to %d = %d, more than with a stretch more", d, from, to, worst)
			}
			var costs []int
			for _, p := range d.Points[from+1 : to] {
				costs = append(costs, p.Cost)
			}
			if worst > sumOf(costs) || len(costs) > 0 && worst < slices.Min(costs) || len(costs) == 1 && worst != costs[0] {
				t.Errorf("%v: Worst of %d to %d = %d, the costs are %v", d, from, to, worst, costs)
			}
		})
	})
}

// dearer returns a line whose costs are all so many times as great.
func dearer(d api.DuctLine, times int) api.DuctLine {
	return with(d, func(d *api.DuctLine) {
		for n := range d.Points {
			d.Points[n].Cost *= times
		}
	})
}

func TestP6_17Backwards(t *testing.T) {
	scaled := 0
	eachLine(17, 2000, func(r *rand.Rand, d api.DuctLine) {
		around, many := backwards(d), len(d.Odds)
		eachSome(d, func(from, to int) {
			if worstOf(around, many-to, many-from) != worstOf(d, from, to) || averageOf(around, many-to, many-from) != averageOf(d, from, to) {
				t.Errorf("%v, %d, %d: Worst and Average are not the same backwards", d, from, to)
			}
		})
		times := 2 + r.Intn(19)
		dear := dearer(d, times)
		if aqueduct.Check(dear) != api.OK {
			return
		}
		scaled++
		eachSome(d, func(from, to int) {
			a, b := averageOf(d, from, to), averageOf(dear, from, to)
			if worstOf(dear, from, to) != times*worstOf(d, from, to) || b.Num*a.Den != times*a.Num*b.Den || nextOf(dear, from, to) != nextOf(d, from, to) {
				t.Errorf("%v, %d, %d: not %d times as dear", d, from, to, times)
			}
		})
		for point := range d.Points {
			if freeOf(dear, point) != times*freeOf(d, point) {
				t.Errorf("%v: Free of %d = %d, and %d if all is %d times as dear", d, point, freeOf(d, point), freeOf(dear, point), times)
			}
		}
	})
	if scaled < 300 {
		t.Errorf("only %d dearer lines were tried", scaled)
	}
}

func TestP6_18OnTheAverage(t *testing.T) {
	scaled := 0
	eachLine(18, 2000, func(r *rand.Rand, d api.DuctLine) {
		times := 2 + r.Intn(3)
		more := with(d, func(d *api.DuctLine) {
			for n := range d.Odds {
				d.Odds[n] *= times
			}
		})
		eachSome(d, func(from, to int) {
			average := averageOf(d, from, to)
			if isLess(ratio(worstOf(d, from, to), 1), average) {
				t.Errorf("%v, %d, %d: Average = %v, Worst = %d", d, from, to, average, worstOf(d, from, to))
			}
			if aqueduct.Check(more) != api.OK {
				return
			}
			scaled++
			if averageOf(more, from, to) != average {
				t.Errorf("%v, %d, %d: Average = %v, and %v with %d times the odds", d, from, to, average, averageOf(more, from, to), times)
			}
		})
	})
	if scaled < 500 {
		t.Errorf("only %d greater odds were tried", scaled)
	}
}

func TestP6_19TheSameCost(t *testing.T) {
	eachLine(19, 500, func(r *rand.Rand, d api.DuctLine) {
		cost := r.Intn(api.MaxDuctCost + 1)
		for n := range d.Points {
			d.Points[n].Cost = cost
		}
		eachSome(d, func(from, to int) {
			want := 0
			for found := 1; found < to-from; found *= 2 {
				want += cost
			}
			if worst := worstOf(d, from, to); worst != want {
				t.Errorf("%v, %d, %d: Worst = %d, not %d", d, from, to, worst, want)
			}
		})
	})
}

func TestP6_20AFreePoint(t *testing.T) {
	eachLine(20, 2000, func(_ *rand.Rand, d api.DuctLine) {
		for point, p := range d.Points {
			less := freeOf(d, point)
			if less < 0 || less > p.Cost || less > 0 && (point == 0 || point == len(d.Odds)) {
				t.Errorf("%v: Free of %d = %d, its Cost is %d", d, point, less, p.Cost)
			}
		}
	})
}
