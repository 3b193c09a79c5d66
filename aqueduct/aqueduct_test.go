package aqueduct_test

import (
	"math"
	"math/rand"
	"slices"
	"testing"

	"steening/api"
	"steening/aqueduct"
)

// invalid returns lines that are not valid, each for one reason.
func invalid() map[string]api.DuctLine {
	list := map[string]api.DuctLine{
		"nothing":       {},
		"no point":      {Points: []api.DuctPoint{}, Odds: []int{}},
		"a stretch":     {Odds: []int{1}},
		"no stretches":  {Points: points(0, 9, 0, 0, 9, 0)},
		"8 stretches":   {Points: slices.Repeat(points(0, 9, 1), 9), Odds: slices.Repeat([]int{1}, 8)},
		"8 and 8":       {Points: slices.Repeat(points(0, 9, 1), 8), Odds: slices.Repeat([]int{1}, 8)},
		"a cost, alone": {Points: points(0, 9, 21)},
		"a flow, alone": {Points: points(5, 4, 1)},
	}
	for name, change := range map[string]func(d *api.DuctLine){
		"a point less":   func(d *api.DuctLine) { d.Points = d.Points[:4] },
		"a point more":   func(d *api.DuctLine) { d.Points = append(d.Points, points(0, 9, 1)...) },
		"a stretch less": func(d *api.DuctLine) { d.Odds = d.Odds[:3] },
		"a stretch more": func(d *api.DuctLine) { d.Odds = append(d.Odds, 1) },
		"odds 0":         func(d *api.DuctLine) { d.Odds[0] = 0 },
		"odds -1":        func(d *api.DuctLine) { d.Odds[2] = -1 },
		"odds 10":        func(d *api.DuctLine) { d.Odds[3] = 10 },
		"odds least":     func(d *api.DuctLine) { d.Odds[1] = math.MinInt },
		"odds most":      func(d *api.DuctLine) { d.Odds[1] = math.MaxInt },
		"cost -1":        func(d *api.DuctLine) { d.Points[0].Cost = -1 },
		"cost 21":        func(d *api.DuctLine) { d.Points[4].Cost = 21 },
		"cost least":     func(d *api.DuctLine) { d.Points[2].Cost = math.MinInt },
		"cost most":      func(d *api.DuctLine) { d.Points[2].Cost = math.MaxInt },
		"low -1":         func(d *api.DuctLine) { d.Points[4].Flow.Low = -1 },
		"low least":      func(d *api.DuctLine) { d.Points[0].Flow.Low = math.MinInt },
		"low above":      func(d *api.DuctLine) { d.Points[1].Flow.Low = 26 },
		"low most":       func(d *api.DuctLine) { d.Points[1].Flow.Low = math.MaxInt },
		"high below":     func(d *api.DuctLine) { d.Points[3].Flow.High = 9 },
		"high least":     func(d *api.DuctLine) { d.Points[3].Flow.High = math.MinInt },
		"both below":     func(d *api.DuctLine) { d.Points[4].Flow = span(-2, -1) },
		"high 100":       func(d *api.DuctLine) { d.Points[0].Flow.High = 100 },
		"high most":      func(d *api.DuctLine) { d.Points[2].Flow.High = math.MaxInt },
		"both above":     func(d *api.DuctLine) { d.Points[0].Flow = span(100, 101) },
		"and a clash":    func(d *api.DuctLine) { d.Points[4] = points(99, 99, 21)[0] },
	} {
		list[name] = with(lineL(), change)
	}
	return list
}

// asked is what the functions are asked for.
type asked struct {
	point, stretch, from, to int
}

// errors returns what each function but Check returns as an error, and reports
// whether each result beside an error is its zero value.
func errors(d api.DuctLine, a asked) (list []api.Errno, zero bool) {
	zero = true
	add := func(e api.Errno, isZero bool) {
		list = append(list, e)
		zero = zero && (e == api.OK || isZero)
	}
	clash, e := aqueduct.Clash(d)
	add(e, clash == api.DuctPair{})
	flow, e := aqueduct.Flow(d, a.point)
	add(e, flow == api.Span{})
	loss, e := aqueduct.Loss(d, a.stretch)
	add(e, loss == api.Span{})
	lossy, e := aqueduct.Lossy(d, a.stretch)
	add(e, lossy == 0)
	whole, e := aqueduct.Whole(d)
	add(e, whole == api.Span{})
	worst, e := aqueduct.Worst(d, a.from, a.to)
	add(e, worst == 0)
	next, e := aqueduct.Next(d, a.from, a.to)
	add(e, next == 0)
	path, e := aqueduct.Path(d, a.stretch)
	add(e, len(path) == 0)
	paid, e := aqueduct.Paid(d, a.stretch)
	add(e, paid == 0)
	average, e := aqueduct.Average(d, a.from, a.to)
	add(e, average == api.Ratio{})
	less, e := aqueduct.Free(d, a.point)
	add(e, less == 0)
	return list, zero
}

// areAll reports whether all errors are the same one.
func areAll(list []api.Errno, e api.Errno) bool {
	return !slices.ContainsFunc(list, func(other api.Errno) bool { return other != e })
}

func TestP6_1Check(t *testing.T) {
	for n, d := range append(plain(), widest(), clash()) {
		if e := aqueduct.Check(d); e != api.OK {
			t.Errorf("%d: Check = %d", n, e)
		}
	}
	for name, d := range invalid() {
		if e := aqueduct.Check(d); e != api.ErrDuct {
			t.Errorf("%s: Check = %d", name, e)
		}
		// ErrDuct is named first, whatever else is wrong.
		for _, n := range []int{0, 1, -1, 9, math.MinInt, math.MaxInt} {
			for _, a := range []asked{{n, n, n, n}, {n, n, 0, n}, {0, 0, n, 2}} {
				list, zero := errors(d, a)
				if !areAll(list, api.ErrDuct) || !zero {
					t.Errorf("%s: %v: errors %v, zero %v", name, a, list, zero)
				}
			}
		}
	}
}

func TestErrors(t *testing.T) {
	for name, x := range map[string]struct {
		d    api.DuctLine
		a    asked
		want []api.Errno
	}{
		"without a truth":   {clash(), asked{0, 0, 0, 4}, []api.Errno{0, 3, 3, 3, 3, 0, 0, 0, 0, 0, 0}},
		"one stretch alone": {flowing(0, 9, 0, 9), asked{1, 0, 0, 1}, []api.Errno{3, 0, 0, 0, 0, 0, 3, 0, 0, 0, 0}},
		"one of several":    {lineL(), asked{4, 3, 3, 4}, []api.Errno{3, 0, 0, 0, 0, 0, 3, 0, 0, 0, 0}},
		"no stretches":      {spring(), asked{}, []api.Errno{3, 0, 1, 1, 0, 1, 1, 1, 1, 1, 3}},
		"nor such a point":  {spring(), asked{1, 0, 0, 1}, []api.Errno{3, 1, 1, 1, 0, 1, 1, 1, 1, 1, 1}},
	} {
		if list, zero := errors(x.d, x.a); !slices.Equal(list, x.want) || !zero {
			t.Errorf("%s: errors %v, zero %v", name, list, zero)
		}
	}
	// ErrArg comes before ErrNone.
	for _, d := range []api.DuctLine{lineL(), clash()} {
		for _, x := range []struct {
			a    asked
			args []int // the functions for which it is no good
		}{
			{asked{4, 3, 3, 4}, nil},
			{asked{0, 0, 0, 1}, nil},
			{asked{-1, 0, 0, 1}, []int{1, 10}},
			{asked{5, 0, 0, 1}, []int{1, 10}},
			{asked{math.MinInt, 0, 0, 1}, []int{1, 10}},
			{asked{math.MaxInt, 0, 0, 1}, []int{1, 10}},
			{asked{0, -1, 0, 1}, []int{2, 3, 7, 8}},
			{asked{0, 4, 0, 1}, []int{2, 3, 7, 8}},
			{asked{0, math.MinInt, 0, 1}, []int{2, 3, 7, 8}},
			{asked{0, math.MaxInt, 0, 1}, []int{2, 3, 7, 8}},
			{asked{0, 0, -1, 1}, []int{5, 6, 9}},
			{asked{0, 0, -1, 0}, []int{5, 6, 9}},
			{asked{0, 0, 0, 0}, []int{5, 6, 9}},
			{asked{0, 0, 2, 2}, []int{5, 6, 9}},
			{asked{0, 0, 2, 1}, []int{5, 6, 9}},
			{asked{0, 0, 3, 5}, []int{5, 6, 9}},
			{asked{0, 0, 4, 5}, []int{5, 6, 9}},
			{asked{0, 0, 4, 4}, []int{5, 6, 9}},
			{asked{0, 0, 0, -1}, []int{5, 6, 9}},
			{asked{0, 0, math.MinInt, 2}, []int{5, 6, 9}},
			{asked{0, 0, math.MaxInt, 2}, []int{5, 6, 9}},
			{asked{0, 0, 1, math.MinInt}, []int{5, 6, 9}},
			{asked{0, 0, 1, math.MaxInt}, []int{5, 6, 9}},
			{asked{0, 0, math.MinInt, math.MaxInt}, []int{5, 6, 9}},
			{asked{0, 0, math.MaxInt, math.MinInt}, []int{5, 6, 9}},
		} {
			list, zero := errors(d, x.a)
			for n, e := range list {
				if slices.Contains(x.args, n) != (e == api.ErrArg) || !zero {
					t.Errorf("%v: %v: errors %v, zero %v", d, x.a, list, zero)
				}
			}
		}
	}
}

func TestExamples(t *testing.T) {
	d := lineL()
	if p, e := aqueduct.Clash(d); p != pair(0, 0) || e != api.ErrNone {
		t.Errorf("Clash = %v, %d", p, e)
	}
	for point, want := range map[int]api.Span{0: span(20, 22), 1: span(18, 22), 3: span(10, 19)} {
		if s, e := aqueduct.Flow(d, point); s != want || e != api.OK {
			t.Errorf("Flow of %d = %v, %d", point, s, e)
		}
	}
	for stretch, want := range map[int]api.Span{0: span(0, 4), 1: span(0, 4), 3: span(0, 10)} {
		if s, e := aqueduct.Loss(d, stretch); s != want || e != api.OK {
			t.Errorf("Loss of %d = %v, %d", stretch, s, e)
		}
	}
	for _, stretch := range []int{0, 3} {
		if n, e := aqueduct.Lossy(d, stretch); n != api.Perhaps || e != api.OK {
			t.Errorf("Lossy of %d = %d, %d", stretch, n, e)
		}
	}
	if s, e := aqueduct.Whole(d); s != span(8, 13) || e != api.OK {
		t.Errorf("Whole = %v, %d", s, e)
	}
	for some, want := range map[[2]int]int{{0, 4}: 5, {0, 2}: 3, {2, 3}: 0, {1, 4}: 5} {
		if n, e := aqueduct.Worst(d, some[0], some[1]); n != want || e != api.OK {
			t.Errorf("Worst of %v = %d, %d", some, n, e)
		}
	}
	n1, e1 := aqueduct.Next(d, 0, 4)
	n2, e2 := aqueduct.Next(d, 2, 3)
	if n1 != 2 || e1 != api.OK || n2 != 0 || e2 != api.ErrNone {
		t.Errorf("Next = %d, %d; %d, %d", n1, e1, n2, e2)
	}
	l1, e1 := aqueduct.Path(d, 0)
	l2, e2 := aqueduct.Path(d, 3)
	if !slices.Equal(l1, []int{2, 1}) || !slices.Equal(l2, []int{2, 3}) || e1|e2 != api.OK {
		t.Errorf("Path = %v, %d; %v, %d", l1, e1, l2, e2)
	}
	p1, e1 := aqueduct.Paid(d, 0)
	p2, e2 := aqueduct.Paid(d, 3)
	if p1 != 4 || p2 != 5 || e1|e2 != api.OK {
		t.Errorf("Paid = %d, %d; %d, %d", p1, e1, p2, e2)
	}
	a1, e1 := aqueduct.Average(d, 0, 4)
	a2, e2 := aqueduct.Average(d, 1, 3)
	if a1 != ratio(19, 4) || a2 != ratio(1, 1) || e1|e2 != api.OK {
		t.Errorf("Average = %v, %d; %v, %d", a1, e1, a2, e2)
	}
	for point, want := range map[int]int{1: 0, 2: 1, 3: 1} {
		if n, e := aqueduct.Free(d, point); n != want || e != api.OK {
			t.Errorf("Free of %d = %d, %d", point, n, e)
		}
	}
}

func TestP6_2Clash(t *testing.T) {
	clashes, several := 0, 0
	eachLine(2, 6000, func(r *rand.Rand, d api.DuctLine) {
		for range r.Intn(3) {
			point := r.Intn(len(d.Points))
			d.Points[point].Flow = d.Points[r.Intn(len(d.Points))].Flow
		}
		var all []api.DuctPair
		for b := range d.Points {
			for a := range b {
				if d.Points[b].Flow.Low > d.Points[a].Flow.High {
					all = append(all, pair(a, b))
				}
			}
		}
		want, e := api.DuctPair{}, api.ErrNone
		if len(all) > 0 {
			want, e = slices.MinFunc(all, func(x, y api.DuctPair) int { return 10*(x.B-y.B) - (x.A - y.A) }), api.OK
			clashes++
		}
		if len(all) > 1 {
			several++
		}
		if p, f := aqueduct.Clash(d); p != want || f != e {
			t.Errorf("Clash(%v) = %v, %d, not %v of %v", d, p, f, want, all)
		}
		isTrue := e == api.ErrNone
		list, _ := errors(d, asked{0, 0, 0, len(d.Odds)})
		if (list[1] == api.OK) != isTrue || (list[4] == api.OK) != isTrue {
			t.Errorf("%v: Clash = %v, %d; errors %v", d, want, e, list)
		}
	})
	if clashes < 500 || several < 100 {
		t.Errorf("not all was tried: %d, %d", clashes, several)
	}
	for _, x := range []struct {
		d    api.DuctLine
		want api.DuctPair
		e    api.Errno
	}{
		{clash(), pair(1, 3), api.OK},
		// The least B, though others clash with more, or before.
		{flowing(1, 2, 3, 4, 9, 9), pair(0, 1), api.OK},
		{flowing(5, 9, 5, 6, 8, 9, 99, 99), pair(1, 2), api.OK},
		// The greatest A, though another one can be less.
		{flowing(0, 2, 0, 3, 0, 9, 4, 9), pair(1, 3), api.OK},
		{flowing(0, 3, 0, 3, 4, 4), pair(1, 2), api.OK},
		// Just as much is no clash, wherever the points are.
		{flowing(0, 3, 3, 9), pair(0, 0), api.ErrNone},
		{flowing(0, 3, 0, 9, 3, 3), pair(0, 0), api.ErrNone},
		{flowing(0, 3, 0, 9, 4, 4), pair(0, 2), api.OK},
		{spring(), pair(0, 0), api.ErrNone},
	} {
		if p, e := aqueduct.Clash(x.d); p != x.want || e != x.e {
			t.Errorf("Clash(%v) = %v, %d, not %v", x.d, p, e, x.want)
		}
	}
}

func TestP6_3FlowP6_4LossP6_5Lossy(t *testing.T) {
	counts, narrower := make(map[int]int), 0
	eachTrue(3, 2500, func(_ *rand.Rand, d api.DuctLine, all [][]int) {
		for point := range d.Points {
			want := spanIn(all, func(truth []int) int { return truth[point] })
			if s, e := aqueduct.Flow(d, point); s != want || e != api.OK {
				t.Errorf("Flow(%v, %d) = %v, %d, not %v", d, point, s, e, want)
			}
			if want != d.Points[point].Flow {
				narrower++
			}
		}
		for stretch := range d.Odds {
			loss := func(truth []int) int { return truth[stretch] - truth[stretch+1] }
			want, lossy := spanIn(all, loss), lossyIn(all, loss)
			counts[lossy]++
			if s, e := aqueduct.Loss(d, stretch); s != want || e != api.OK {
				t.Errorf("Loss(%v, %d) = %v, %d, not %v", d, stretch, s, e, want)
			}
			if n, e := aqueduct.Lossy(d, stretch); n != lossy || e != api.OK {
				t.Errorf("Lossy(%v, %d) = %d, %d, not %d", d, stretch, n, e, lossy)
			}
		}
	})
	if narrower < 1000 || counts[api.Surely] < 500 || counts[api.Never] < 100 || counts[api.Perhaps] < 500 {
		t.Errorf("not all was tried: %d, %v", narrower, counts)
	}
	// What is known comes from far before, and from far behind.
	far := flowing(0, 40, 0, 99, 0, 99, 0, 99, 0, 99, 0, 99, 0, 99, 30, 99)
	for point := range far.Points {
		if s, e := aqueduct.Flow(far, point); s != span(30, 40) || e != api.OK {
			t.Errorf("Flow of %d = %v, %d", point, s, e)
		}
	}
	for stretch := range far.Odds {
		if s, e := aqueduct.Loss(far, stretch); s != span(0, 10) || e != api.OK {
			t.Errorf("Loss of %d = %v, %d", stretch, s, e)
		}
	}
}

func TestP6_6Whole(t *testing.T) {
	above := 0
	eachTrue(6, 2500, func(_ *rand.Rand, d api.DuctLine, all [][]int) {
		want := spanIn(all, func(truth []int) int {
			sum := 0
			for stretch := range d.Odds {
				sum += truth[stretch] - truth[stretch+1]
			}
			return sum
		})
		if s, e := aqueduct.Whole(d); s != want || e != api.OK {
			t.Errorf("Whole(%v) = %v, %d, not %v", d, s, e, want)
		}
		if want.Low > 0 {
			above++
		}
	})
	if above < 200 {
		t.Errorf("only %d losses above 0 were tried", above)
	}
	if s, e := aqueduct.Whole(widest()); s != span(0, 99) || e != api.OK {
		t.Errorf("Whole = %v, %d", s, e)
	}
	// Nothing is lost on no stretches, though the one flow is not known.
	if s, e := aqueduct.Whole(spring()); s != span(0, 0) || e != api.OK {
		t.Errorf("Whole = %v, %d", s, e)
	}
}

func TestP6_7WorstP6_8Next(t *testing.T) {
	later := 0
	eachLine(7, 400, func(_ *rand.Rand, d api.DuctLine) {
		eachSome(d, func(from, to int) {
			ways := waysOf(d, from, to)
			paid, point := leastWorst(ways)
			if n, e := aqueduct.Worst(d, from, to); n != paid || e != api.OK {
				t.Errorf("Worst(%v, %d, %d) = %d, %d, not %d", d, from, to, n, e, paid)
			}
			n, e := aqueduct.Next(d, from, to)
			if to-from == 1 {
				if n != 0 || e != api.ErrNone || paid != 0 {
					t.Errorf("Next(%v, %d, %d) = %d, %d", d, from, to, n, e)
				}
				return
			}
			if n != point || e != api.OK {
				t.Errorf("Next(%v, %d, %d) = %d, %d, not %d", d, from, to, n, e, point)
			}
			if point > from+1 {
				later++
			}
		})
	})
	if later < 500 {
		t.Errorf("only %d later points were tried", later)
	}
	for _, x := range []struct {
		d           api.DuctLine
		worst, next int
	}{
		// Of several points the first one, also if nothing must be paid.
		{costing([]int{0, 0, 0}, 1, 1, 1, 1), 0, 1},
		{costing([]int{2, 2}, 1, 1, 1), 4, 1},
		{costing([]int{2, 2, 2, 2}, 1, 1, 1, 1, 1), 6, 1},
		// The first point need be neither the cheapest one nor in the middle.
		{costing([]int{1, 20, 1}, 1, 1, 1, 1), 21, 2},
		{costing([]int{1, 1, 1, 1, 20}, 1, 1, 1, 1, 1, 1), 21, 4},
		{costing([]int{1, 5, 1, 1}, 1, 1, 1, 1, 1), 7, 1},
		{costing([]int{1, 4, 1, 1}, 1, 1, 1, 1, 1), 6, 1},
		{costing([]int{5, 1, 1, 1, 1}, 1, 1, 1, 1, 1, 1), 6, 2},
		// The odds change nothing.
		{costing([]int{1, 1, 1}, 9, 1, 1, 1), 2, 2},
		{costing([]int{20, 20, 20, 20, 20, 20}, 1, 2, 3, 4, 5, 6, 7), 60, 3},
	} {
		n, e := aqueduct.Worst(x.d, 0, len(x.d.Odds))
		point, f := aqueduct.Next(x.d, 0, len(x.d.Odds))
		if n != x.worst || point != x.next || e|f != api.OK {
			t.Errorf("%v: Worst = %d, %d; Next = %d, %d", x.d, n, e, point, f)
		}
	}
}

func TestP6_9PathP6_10Paid(t *testing.T) {
	lengths := make(map[int]int)
	eachLine(9, 2000, func(_ *rand.Rand, d api.DuctLine) {
		for stretch := range d.Odds {
			want, paid := pathIn(d, stretch), 0
			for _, point := range want {
				paid += d.Points[point].Cost
			}
			lengths[len(want)]++
			if l, e := aqueduct.Path(d, stretch); !slices.Equal(l, want) || e != api.OK {
				t.Errorf("Path(%v, %d) = %v, %d, not %v", d, stretch, l, e, want)
			}
			if n, e := aqueduct.Paid(d, stretch); n != paid || e != api.OK {
				t.Errorf("Paid(%v, %d) = %d, %d, not %d", d, stretch, n, e, paid)
			}
		}
	})
	for n := range 7 {
		if lengths[n] < 10 {
			t.Errorf("not all was tried: %v", lengths)
		}
	}
	// On the cheap side, too, it is always the Next of what is left, although
	// other points would not cost more than Worst there either.
	d := costing([]int{1, 4, 1, 9, 9}, 1, 1, 1, 1, 1, 1)
	for stretch, want := range [][]int{{4, 2, 1}, {4, 2, 1}, {4, 2, 3}, {4, 2, 3}, {4, 5}, {4, 5}} {
		if l, e := aqueduct.Path(d, stretch); !slices.Equal(l, want) || e != api.OK {
			t.Errorf("Path of %d = %v, %d, not %v", stretch, l, e, want)
		}
	}
	l, e := aqueduct.Path(flowing(0, 9, 0, 9), 0)
	n, f := aqueduct.Paid(flowing(0, 9, 0, 9), 0)
	if len(l) != 0 || n != 0 || e|f != api.OK {
		t.Errorf("one stretch: Path = %v, %d; Paid = %d, %d", l, e, n, f)
	}
}

func TestP6_11Average(t *testing.T) {
	whole, other := 0, 0
	eachLine(11, 400, func(_ *rand.Rand, d api.DuctLine) {
		eachSome(d, func(from, to int) {
			odds := d.Odds[from:to]
			sum, all := leastSum(waysOf(d, from, to), odds), sumOf(odds)
			a, e := aqueduct.Average(d, from, to)
			if a.Den < 1 || a.Num*all != sum*a.Den || divides(a) || e != api.OK {
				t.Errorf("Average(%v, %d, %d) = %v, %d, not %d/%d", d, from, to, a, e, sum, all)
			}
			if a.Den == 1 && to-from > 1 {
				whole++
			}
			// What is best at the worst is not what is best on the average.
			if paid, _ := leastWorst(waysOf(d, from, to)); a.Num < paid*a.Den {
				other++
			}
		})
	})
	if whole < 100 || other < 500 {
		t.Errorf("not all was tried: %d, %d", whole, other)
	}
	for _, x := range []struct {
		d        api.DuctLine
		from, to int
		want     api.Ratio
	}{
		{costing([]int{0, 0}, 3, 3, 3), 0, 3, ratio(0, 1)},
		{costing([]int{4}, 9, 1), 0, 1, ratio(0, 1)},
		{costing([]int{4}, 9, 1), 1, 2, ratio(0, 1)},
		{costing([]int{4}, 9, 1), 0, 2, ratio(4, 1)},
		// 9 finds are paid with one gauging, and 2 with two.
		{costing([]int{1, 1}, 9, 1, 1), 0, 3, ratio(13, 11)},
		{costing([]int{1, 1}, 1, 1, 9), 0, 3, ratio(13, 11)},
		// Only the odds of some stretches count.
		{costing([]int{1, 1, 1}, 2, 1, 1, 9), 0, 3, ratio(3, 2)},
		{widest(), 0, 7, ratio(400, 7)},
	} {
		if a, e := aqueduct.Average(x.d, x.from, x.to); a != x.want || e != api.OK {
			t.Errorf("Average(%v, %d, %d) = %v, %d, not %v", x.d, x.from, x.to, a, e, x.want)
		}
	}
}

func TestP6_12Free(t *testing.T) {
	less, part := 0, 0
	eachLine(12, 400, func(_ *rand.Rand, d api.DuctLine) {
		for point := range d.Points {
			n, e := aqueduct.Free(d, point)
			if len(d.Odds) == 0 {
				if n != 0 || e != api.ErrNone {
					t.Errorf("Free(%v, %d) = %d, %d", d, point, n, e)
				}
				continue
			}
			free := with(d, func(d *api.DuctLine) { d.Points[point].Cost = 0 })
			before, _ := leastWorst(waysOf(d, 0, len(d.Odds)))
			after, _ := leastWorst(waysOf(free, 0, len(d.Odds)))
			if n != before-after || e != api.OK {
				t.Errorf("Free(%v, %d) = %d, %d, not %d", d, point, n, e, before-after)
			}
			if n > 0 {
				less++
			}
			if n > 0 && n < d.Points[point].Cost {
				part++
			}
		}
	})
	if less < 300 || part < 50 {
		t.Errorf("not all was tried: %d, %d", less, part)
	}
	for _, point := range []int{-1, 1, math.MinInt, math.MaxInt} {
		if n, e := aqueduct.Free(spring(), point); n != 0 || e != api.ErrArg {
			t.Errorf("Free of %d without stretches = %d, %d", point, n, e)
		}
	}
}

func TestNilAndEmpty(t *testing.T) {
	one := api.DuctLine{Points: points(3, 8, 2)}
	other := api.DuctLine{Points: points(3, 8, 2), Odds: []int{}}
	for _, a := range []asked{{}, {0, 0, 0, 1}, {1, 1, 1, 1}, {-1, -1, -1, -1}} {
		x, _ := errors(one, a)
		y, _ := errors(other, a)
		if !slices.Equal(x, y) {
			t.Errorf("%v: errors %v, %v", a, x, y)
		}
	}
	if aqueduct.Check(one) != api.OK || aqueduct.Check(other) != api.OK || flowOf(one, 0) != flowOf(other, 0) || wholeOf(one) != wholeOf(other) {
		t.Error("nil and empty odds are not the same")
	}
	for _, d := range []api.DuctLine{{}, {Points: []api.DuctPoint{}}, {Odds: []int{}}, {Points: []api.DuctPoint{}, Odds: []int{}}} {
		if e := aqueduct.Check(d); e != api.ErrDuct {
			t.Errorf("Check(%v) = %d", d, e)
		}
	}
}

func TestMemory(t *testing.T) {
	eachLine(20, 300, func(_ *rand.Rand, d api.DuctLine) {
		kept := clone(d)
		// What lies behind the lists is the caller's, too.
		d.Points = append(d.Points, points(7, 7, 7)...)[:len(d.Points)]
		d.Odds = append(d.Odds, 7)[:len(d.Odds)]
		for stretch := range d.Odds {
			path := pathOf(d, stretch)
			again := slices.Clone(path)
			for n := range path {
				path[n] = -9
			}
			errors(d, asked{stretch, stretch, 0, len(d.Odds)})
			errors(d, asked{len(d.Odds), stretch, stretch, len(d.Odds)})
			if !slices.Equal(pathOf(d, stretch), again) {
				t.Errorf("Path(%v, %d) = %v, and %v before", d, stretch, pathOf(d, stretch), again)
			}
		}
		errors(d, asked{})
		behind := d.Points[:len(d.Points)+1][len(d.Points)]
		if !same(d, kept) || behind != points(7, 7, 7)[0] || d.Odds[:len(d.Odds)+1][len(d.Odds)] != 7 {
			t.Errorf("%v has become %v", kept, d)
		}
	})
}

// anyNumber returns a random number, often one that is not valid.
func anyNumber(r *rand.Rand) int {
	some := []int{math.MinInt, math.MinInt + 1, -1, 0, 1, 9, 10, 20, 21, 99, 100, math.MaxInt - 1, math.MaxInt}
	if r.Intn(3) > 0 {
		return r.Intn(9)
	}
	return some[r.Intn(len(some))]
}

// isLine reports whether a line is valid.
func isLine(d api.DuctLine) bool {
	for _, p := range d.Points {
		if p.Flow.Low < 0 || p.Flow.High > 99 || p.Flow.Low > p.Flow.High || p.Cost < 0 || p.Cost > 20 {
			return false
		}
	}
	for _, odds := range d.Odds {
		if odds < 1 || odds > 9 {
			return false
		}
	}
	return len(d.Points) >= 1 && len(d.Points) <= 8 && len(d.Points)-len(d.Odds) == 1
}

func TestP1Aqueduct(t *testing.T) {
	r := rand.New(rand.NewSource(1))
	good, bad := 0, 0
	for range 20000 {
		d := someLine(r, r.Intn(9), r.Intn(99))
		if r.Intn(3) == 0 {
			point := r.Intn(len(d.Points))
			d.Points[point] = points(anyNumber(r), anyNumber(r), anyNumber(r))[0]
		}
		if r.Intn(4) == 0 {
			d.Points = d.Points[r.Intn(len(d.Points)+1):]
		}
		if len(d.Odds) > 0 && r.Intn(4) == 0 {
			d.Odds[r.Intn(len(d.Odds))] = anyNumber(r)
		}
		is := isLine(d)
		if is {
			good++
		} else {
			bad++
		}
		list, zero := errors(d, asked{anyNumber(r), anyNumber(r), anyNumber(r), anyNumber(r)})
		if e := aqueduct.Check(d); (e == api.OK) != is || is == areAll(append(list, e), api.ErrDuct) || !zero {
			t.Errorf("%v: Check = %d, errors %v, zero %v", d, e, list, zero)
		}
	}
	if good < 2000 || bad < 2000 {
		t.Errorf("not all was tried: %d, %d", good, bad)
	}
	if list, _ := errors(widest(), asked{7, 6, 0, 7}); !areAll(list[1:], api.OK) {
		t.Errorf("the widest line is refused: %v", list)
	}
}
