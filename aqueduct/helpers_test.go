package aqueduct_test

import (
	"math"
	"math/rand"
	"slices"

	"steening/api"
	"steening/aqueduct"
)

func span(low, high int) api.Span { return api.Span{Low: low, High: high} }

func pair(a, b int) api.DuctPair { return api.DuctPair{A: a, B: b} }

func ratio(num, den int) api.Ratio { return api.Ratio{Num: num, Den: den} }

// points returns points of Low, High and Cost that are given in turn.
func points(numbers ...int) []api.DuctPoint {
	var all []api.DuctPoint
	for p := range slices.Chunk(numbers, 3) {
		all = append(all, api.DuctPoint{Flow: span(p[0], p[1]), Cost: p[2]})
	}
	return all
}

// flowing returns a line of flows of Low and High that are given in turn; it
// costs 1 to gauge at each point, and the odds are all 1.
func flowing(numbers ...int) api.DuctLine {
	var d api.DuctLine
	for flow := range slices.Chunk(numbers, 2) {
		d.Points = append(d.Points, points(flow[0], flow[1], 1)...)
	}
	d.Odds = slices.Repeat([]int{1}, len(d.Points)-1)
	return d
}

// costing returns a line of which no flow is known, by the costs between its
// stretches and their odds.
func costing(costs []int, odds ...int) api.DuctLine {
	d := api.DuctLine{Points: points(0, 99, 7), Odds: odds}
	for _, cost := range costs {
		d.Points = append(d.Points, points(0, 99, cost)...)
	}
	d.Points = append(d.Points, points(0, 99, 5)...)
	return d
}

// lineL is the line L of the chapter's examples.
func lineL() api.DuctLine {
	return api.DuctLine{
		Points: points(20, 22, 0, 15, 25, 3, 18, 19, 1, 10, 19, 4, 9, 12, 0),
		Odds:   []int{1, 1, 2, 4},
	}
}

// spring is the line without stretches.
func spring() api.DuctLine {
	return api.DuctLine{Points: points(3, 8, 2)}
}

// widest returns the line with the greatest numbers of all.
func widest() api.DuctLine {
	return api.DuctLine{
		Points: slices.Repeat(points(0, 99, 20), 8),
		Odds:   slices.Repeat([]int{9}, 7),
	}
}

// clash returns a line without a truth.
func clash() api.DuctLine {
	return flowing(9, 9, 3, 4, 2, 8, 5, 6, 0, 9)
}

// plain returns some lines at the ends of what can be; each has a truth.
func plain() []api.DuctLine {
	return []api.DuctLine{
		spring(),
		{Points: points(0, 0, 0)},
		{Points: points(99, 99, 20), Odds: []int{}},
		flowing(0, 99, 0, 99),
		flowing(5, 5, 5, 5, 5, 5),
		{Points: points(0, 0, 0, 0, 0, 0), Odds: []int{9}},
		{Points: points(99, 99, 20, 0, 0, 20), Odds: []int{1}},
		{Points: slices.Repeat(points(1, 3, 0), 8), Odds: slices.Repeat([]int{1}, 7)},
		lineL(),
	}
}

// clone returns a line that shares no memory with another one.
func clone(d api.DuctLine) api.DuctLine {
	return api.DuctLine{Points: slices.Clone(d.Points), Odds: slices.Clone(d.Odds)}
}

// same reports whether two lines are the same.
func same(a, b api.DuctLine) bool {
	return slices.Equal(a.Points, b.Points) && slices.Equal(a.Odds, b.Odds)
}

// backwards returns a line that is turned around.
func backwards(d api.DuctLine) api.DuctLine {
	d = clone(d)
	slices.Reverse(d.Points)
	slices.Reverse(d.Odds)
	return d
}

// with returns a line in which something is changed.
func with(d api.DuctLine, change func(d *api.DuctLine)) api.DuctLine {
	d = clone(d)
	change(&d)
	return d
}

// truths returns all truths of a line, found by trying all flows.
func truths(d api.DuctLine) [][]int {
	var all [][]int
	var try func(first []int)
	try = func(first []int) {
		if len(first) == len(d.Points) {
			all = append(all, slices.Clone(first))
			return
		}
		for flow := range 1 + api.MaxDuctFlow {
			s := d.Points[len(first)].Flow
			if flow < s.Low || flow > s.High || len(first) > 0 && flow > first[len(first)-1] {
				continue
			}
			try(append(first, flow))
		}
	}
	try(make([]int, 0, len(d.Points)))
	return all
}

// spanIn returns between what a number of each truth is.
func spanIn(all [][]int, number func(truth []int) int) api.Span {
	s := span(math.MaxInt, math.MinInt)
	for _, truth := range all {
		s.Low, s.High = min(s.Low, number(truth)), max(s.High, number(truth))
	}
	return s
}

// lossyIn returns what is known of whether numbers of truths are above 0.
func lossyIn(all [][]int, number func(truth []int) int) int {
	above := 0
	for _, truth := range all {
		if number(truth) > 0 {
			above++
		}
	}
	switch above {
	case 0:
		return api.Never
	case len(all):
		return api.Surely
	}
	return api.Perhaps
}

// way is a way to find the thief among some stretches: the point where to gauge
// first, and what is paid for each stretch.
type way struct {
	point int
	paid  []int
}

// waysOf returns all ways to find the thief among some stretches.
func waysOf(d api.DuctLine, from, to int) []way {
	if to-from == 1 {
		return []way{{point: -1, paid: []int{0}}}
	}
	var all []way
	for point := from + 1; point < to; point++ {
		behind := waysOf(d, point, to)
		for _, before := range waysOf(d, from, point) {
			for _, later := range behind {
				paid := slices.Concat(before.paid, later.paid)
				for n := range paid {
					paid[n] += d.Points[point].Cost
				}
				all = append(all, way{point: point, paid: paid})
			}
		}
	}
	return all
}

// leastWorst returns what is paid at the worst, by the best of all ways, and the
// first point with which such a way begins.
func leastWorst(ways []way) (paid, point int) {
	paid, point = math.MaxInt, math.MaxInt
	for _, w := range ways {
		most := slices.Max(w.paid)
		if most < paid || most == paid && w.point < point {
			paid, point = most, w.point
		}
	}
	return paid, point
}

// leastSum returns what is paid for all stretches together, each as many times
// as its odds say, by the best of all ways.
func leastSum(ways []way, odds []int) int {
	least := math.MaxInt
	for _, w := range ways {
		sum := 0
		for n, paid := range w.paid {
			sum += odds[n] * paid
		}
		least = min(least, sum)
	}
	return least
}

// pathIn returns the points that are gauged if always the first best point comes
// next, found by going through all ways.
func pathIn(d api.DuctLine, stretch int) []int {
	var path []int
	from, to := 0, len(d.Odds)
	for to-from > 1 {
		_, point := leastWorst(waysOf(d, from, to))
		path = append(path, point)
		if stretch < point {
			to = point
		} else {
			from = point
		}
	}
	return path
}

// sumOf returns the sum of some numbers.
func sumOf(list []int) int {
	sum := 0
	for _, n := range list {
		sum += n
	}
	return sum
}

// divides reports whether a number above 1 divides both numbers of a fraction.
func divides(r api.Ratio) bool {
	for n := 2; n <= r.Den; n++ {
		if r.Num%n == 0 && r.Den%n == 0 {
			return true
		}
	}
	return false
}

// isLess reports whether a fraction is less than another one.
func isLess(a, b api.Ratio) bool {
	return a.Num*b.Den < b.Num*a.Den
}

// someLine returns a random line of so many stretches. Its flows fall, by one
// number for each point; they are known up to a slack, and most, but not all, of
// these lines have a truth.
func someLine(r *rand.Rand, stretches, slack int) api.DuctLine {
	var d api.DuctLine
	flow, step := r.Intn(api.MaxDuctFlow+1), 1+r.Intn(8)
	dear := 1 + r.Intn(1+r.Intn(api.MaxDuctCost))
	for range stretches + 1 {
		near := flow
		if r.Intn(8) == 0 {
			near = max(0, min(api.MaxDuctFlow, near+r.Intn(7)-3))
		}
		low, high := max(0, near-r.Intn(slack+1)), min(api.MaxDuctFlow, near+r.Intn(slack+1))
		d.Points = append(d.Points, points(low, high, r.Intn(dear+1))...)
		flow = max(0, flow-r.Intn(step))
	}
	odds := 1 + r.Intn(api.MaxDuctOdds)
	for range stretches {
		d.Odds = append(d.Odds, 1+r.Intn(odds))
	}
	return d
}

// eachLine calls a function with many lines that may have no truth.
func eachLine(seed int64, many int, call func(r *rand.Rand, d api.DuctLine)) {
	r := rand.New(rand.NewSource(seed))
	for _, d := range append(plain(), clash()) {
		call(r, d)
	}
	for range many {
		call(r, someLine(r, r.Intn(api.MaxDuctStretches+1), r.Intn(4)))
	}
}

// eachTrue calls a function with many lines that have a truth, and with all
// their truths.
func eachTrue(seed int64, many int, call func(r *rand.Rand, d api.DuctLine, all [][]int)) {
	eachLine(seed, many, func(r *rand.Rand, d api.DuctLine) {
		if all := truths(d); len(all) > 0 {
			call(r, d, all)
		}
	})
}

// eachSome calls a function with the ends of all some stretches of a line.
func eachSome(d api.DuctLine, call func(from, to int)) {
	for from := range d.Odds {
		for to := from + 1; to <= len(d.Odds); to++ {
			call(from, to)
		}
	}
}

// flowOf, lossOf, lossyOf, wholeOf, worstOf, nextOf, pathOf, paidOf, averageOf
// and freeOf return results of lines that have them.
func flowOf(d api.DuctLine, point int) api.Span {
	s, _ := aqueduct.Flow(d, point)
	return s
}

func lossOf(d api.DuctLine, stretch int) api.Span {
	s, _ := aqueduct.Loss(d, stretch)
	return s
}

func lossyOf(d api.DuctLine, stretch int) int {
	lossy, _ := aqueduct.Lossy(d, stretch)
	return lossy
}

func wholeOf(d api.DuctLine) api.Span {
	s, _ := aqueduct.Whole(d)
	return s
}

func worstOf(d api.DuctLine, from, to int) int {
	paid, _ := aqueduct.Worst(d, from, to)
	return paid
}

func nextOf(d api.DuctLine, from, to int) int {
	point, _ := aqueduct.Next(d, from, to)
	return point
}

func pathOf(d api.DuctLine, stretch int) []int {
	path, _ := aqueduct.Path(d, stretch)
	return path
}

func paidOf(d api.DuctLine, stretch int) int {
	paid, _ := aqueduct.Paid(d, stretch)
	return paid
}

func averageOf(d api.DuctLine, from, to int) api.Ratio {
	average, _ := aqueduct.Average(d, from, to)
	return average
}

func freeOf(d api.DuctLine, point int) int {
	less, _ := aqueduct.Free(d, point)
	return less
}
