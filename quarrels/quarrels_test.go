package quarrels_test

import (
	"math"
	"math/rand"
	"slices"
	"testing"

	"steening/api"
	"steening/quarrels"
)

// invalid returns towns that are not valid, each for one reason.
func invalid() map[string]api.QuarrelTown {
	w := world(1, 0)
	list := map[string]api.QuarrelTown{
		"wells -1":          {Wells: -1},
		"wells 5":           {Wells: 5},
		"wells least":       {Wells: math.MinInt},
		"wells most":        {Wells: math.MaxInt},
		"7 worlds":          {Wells: 1, Worlds: []api.QuarrelWorld{w, w, w, w, w, w, w}},
		"7 worlds, nowhere": {Worlds: make([]api.QuarrelWorld, 7)},
		"7 facts":           {Wells: 1, Facts: facts(0, 1, 0, 0, 9, 0, 1, 0, 0, 9, 0, 1, 0, 0, 9, 0, 1, 0, 0, 9, 0, 1, 0, 0, 9, 0, 1, 0, 0, 9, 0, 1, 0, 0, 9)},
		"a fact, nowhere":   {Facts: facts(0, 1, 0, 0, 9)},
		"a list, nowhere":   {Worlds: []api.QuarrelWorld{{Falls: [][]int{{}}}}},
		"no lists":          {Wells: 1, Worlds: []api.QuarrelWorld{{}}},
		"an empty list":     {Wells: 1, Worlds: []api.QuarrelWorld{{Falls: [][]int{{}}}}},
	}
	for name, change := range map[string]func(t *api.QuarrelTown){
		"a list less":     func(t *api.QuarrelTown) { t.Worlds[2].Falls = t.Worlds[2].Falls[:1] },
		"a list more":     func(t *api.QuarrelTown) { t.Worlds[0].Falls = append(t.Worlds[0].Falls, []int{0, 0}) },
		"a fall less":     func(t *api.QuarrelTown) { t.Worlds[1].Falls[1] = t.Worlds[1].Falls[1][:1] },
		"a fall more":     func(t *api.QuarrelTown) { t.Worlds[1].Falls[0] = append(t.Worlds[1].Falls[0], 1) },
		"fall -1":         func(t *api.QuarrelTown) { t.Worlds[0].Falls[0][0] = -1 },
		"fall 10":         func(t *api.QuarrelTown) { t.Worlds[2].Falls[1][1] = 10 },
		"fall least":      func(t *api.QuarrelTown) { t.Worlds[1].Falls[0][1] = math.MinInt },
		"fall most":       func(t *api.QuarrelTown) { t.Worlds[1].Falls[0][1] = math.MaxInt },
		"from -1":         func(t *api.QuarrelTown) { t.Facts[0].From = -1 },
		"from 2":          func(t *api.QuarrelTown) { t.Facts[0].From = 2 },
		"from most":       func(t *api.QuarrelTown) { t.Facts[0].From = math.MaxInt },
		"to -1":           func(t *api.QuarrelTown) { t.Facts[0].To = -1 },
		"to 2":            func(t *api.QuarrelTown) { t.Facts[0].To = 2 },
		"to least":        func(t *api.QuarrelTown) { t.Facts[0].To = math.MinInt },
		"many 0":          func(t *api.QuarrelTown) { t.Facts[0].Many = 0 },
		"many -1":         func(t *api.QuarrelTown) { t.Facts[0].Many = -1 },
		"many 10":         func(t *api.QuarrelTown) { t.Facts[0].Many = 10 },
		"many most":       func(t *api.QuarrelTown) { t.Facts[0].Many = math.MaxInt },
		"low -1":          func(t *api.QuarrelTown) { t.Facts[0].Low = -1 },
		"low least":       func(t *api.QuarrelTown) { t.Facts[0].Low = math.MinInt },
		"low above":       func(t *api.QuarrelTown) { t.Facts[0].Low = 4 },
		"high below":      func(t *api.QuarrelTown) { t.Facts[0].High = 1 },
		"both below":      func(t *api.QuarrelTown) { t.Facts[0].Low, t.Facts[0].High = -2, -1 },
		"high 100":        func(t *api.QuarrelTown) { t.Facts[0].High = 100 },
		"high most":       func(t *api.QuarrelTown) { t.Facts[0].High = math.MaxInt },
		"a later fact":    func(t *api.QuarrelTown) { t.Facts = append(t.Facts, facts(0, 1, 2, 0, 9)...) },
		"wells 1":         func(t *api.QuarrelTown) { t.Wells = 1 },
		"wells 3":         func(t *api.QuarrelTown) { t.Wells = 3 },
		"an empty world":  func(t *api.QuarrelTown) { t.Worlds = append(t.Worlds, api.QuarrelWorld{}) },
		"no world either": func(t *api.QuarrelTown) { t.Worlds, t.Facts[0].Many = nil, 10 },
	} {
		t := townE()
		change(&t)
		list[name] = t
	}
	return list
}

// asked is what the functions are asked for.
type asked struct {
	world, from, to, law int
	draws                []int
}

// errors returns what each function but Check and Left returns as an error, and
// reports whether each other result is its zero value.
func errors(t api.QuarrelTown, a asked) (e []api.Errno, zero bool) {
	test := api.QuarrelTest{From: a.from, To: a.to}
	o, e1 := quarrels.Out(t, a.world)
	b, e2 := quarrels.Between(t, a.from, a.to)
	h, e3 := quarrels.Harms(t, a.from, a.to, a.law)
	s, e4 := quarrels.Total(t, a.draws, a.to)
	m, e5 := quarrels.Blame(t, a.draws, a.to)
	p, e6 := quarrels.Split(t, test)
	f, e7 := quarrels.Fewest(t)
	d, e8 := quarrels.Decide(t, a.from, a.to, a.law)
	n, e9 := quarrels.Depth(t)
	x, e10 := quarrels.Next(t)
	zero = h|m|p|n == 0 && b == api.Span{} && s == b && x == api.QuarrelTest{} && len(o)+len(f)+len(d) == 0
	return []api.Errno{e1, e2, e3, e4, e5, e6, e7, e8, e9, e10}, zero
}

// areAll reports whether all errors are the same one.
func areAll(list []api.Errno, e api.Errno) bool {
	return !slices.ContainsFunc(list, func(other api.Errno) bool { return other != e })
}

func TestP5_1Check(t *testing.T) {
	for n, town := range append(plain(), widest(), api.QuarrelTown{}, api.QuarrelTown{Wells: 4}) {
		if e := quarrels.Check(town); e != api.OK {
			t.Errorf("%d: Check = %d", n, e)
		}
	}
	for name, town := range invalid() {
		left, e := quarrels.Left(town)
		if f := quarrels.Check(town); f != api.ErrQuarrel || e != api.ErrQuarrel || len(left) > 0 {
			t.Errorf("%s: Check = %d, Left = %v, %d", name, f, left, e)
		}
		// ErrQuarrel is named first, whatever else is wrong.
		for _, n := range []int{0, 1, -1, 100, math.MinInt, math.MaxInt} {
			list, zero := errors(town, asked{n, n, n, n, []int{n, n}})
			if !areAll(list, api.ErrQuarrel) || !zero {
				t.Errorf("%s: errors %v, zero %v", name, list, zero)
			}
		}
	}
}

func TestErrors(t *testing.T) {
	none := townE()
	none.Facts = append(none.Facts, facts(0, 1, 0, 4, 99)...)
	nowhere := api.QuarrelTown{Wells: 2}
	// No world is left, but what is asked for is.
	for _, town := range []api.QuarrelTown{none, nowhere} {
		list, _ := errors(town, asked{0, 0, 1, 0, []int{0, 0}})
		left, e := quarrels.Left(town)
		if !areAll(list[1:], api.ErrNone) || len(left) != 0 || e != api.OK {
			t.Errorf("%v: errors %v; Left = %v, %d", town, list, left, e)
		}
	}
	if out, e := quarrels.Out(none, 1); !slices.Equal(out, []int{0, 1}) || e != api.OK {
		t.Errorf("Out = %v, %d", out, e)
	}
	if list, zero := errors(api.QuarrelTown{}, asked{}); !slices.Equal(list, []api.Errno{1, 1, 1, 1, 1, 1, 3, 1, 3, 3}) || !zero {
		t.Errorf("without wells: errors %v, zero %v", list, zero)
	}
	// ErrArg comes before ErrNone.
	for _, town := range []api.QuarrelTown{townE(), none, nowhere} {
		for _, x := range []struct {
			a    asked
			args []int // the functions for which it is no good
		}{
			{asked{-1, 0, 1, 0, []int{9, 0}}, []int{0}},
			{asked{3, 0, 1, 99, []int{0, 9}}, []int{0}},
			{asked{math.MinInt, 1, 1, 0, []int{0, 0}}, []int{0}},
			{asked{math.MaxInt, 1, 1, 0, []int{0, 0}}, []int{0}},
			{asked{0, -1, 1, 0, []int{0, 0}}, []int{1, 2, 5, 7}},
			{asked{0, 2, 1, 0, []int{0, 0}}, []int{1, 2, 5, 7}},
			{asked{0, math.MinInt, 1, 0, []int{0, 0}}, []int{1, 2, 5, 7}},
			{asked{0, math.MaxInt, 1, 0, []int{0, 0}}, []int{1, 2, 5, 7}},
			{asked{0, 0, -1, 0, []int{0, 0}}, []int{1, 2, 3, 4, 5, 7}},
			{asked{0, 0, 2, 0, []int{0, 0}}, []int{1, 2, 3, 4, 5, 7}},
			{asked{0, 0, math.MinInt, 0, []int{0, 0}}, []int{1, 2, 3, 4, 5, 7}},
			{asked{0, 0, math.MaxInt, 0, []int{0, 0}}, []int{1, 2, 3, 4, 5, 7}},
			{asked{0, 0, 1, -1, []int{0, 0}}, []int{2, 7}},
			{asked{0, 0, 1, 100, []int{0, 0}}, []int{2, 7}},
			{asked{0, 0, 1, math.MinInt, []int{0, 0}}, []int{2, 7}},
			{asked{0, 0, 1, math.MaxInt, []int{0, 0}}, []int{2, 7}},
			{asked{0, 0, 1, 0, []int{-1, 0}}, []int{3, 4}},
			{asked{0, 0, 1, 0, []int{0, 10}}, []int{3, 4}},
			{asked{0, 0, 1, 0, []int{math.MinInt, 0}}, []int{3, 4}},
			{asked{0, 0, 1, 0, []int{0, math.MaxInt}}, []int{3, 4}},
			{asked{0, 0, 1, 0, []int{0}}, []int{3, 4}},
			{asked{0, 0, 1, 0, []int{0, 0, 0}}, []int{3, 4}},
			{asked{0, 0, 1, 0, nil}, []int{3, 4}},
		} {
			list, _ := errors(town, x.a)
			for n, e := range list {
				isArg := slices.Contains(x.args, n) || n == 0 && len(town.Worlds) == 0
				if isArg != (e == api.ErrArg) {
					t.Errorf("%v: %v: errors %v", town, x.a, list)
				}
			}
		}
	}
}

func TestExamples(t *testing.T) {
	e, g := townE(), townG()
	left, e1 := quarrels.Left(e)
	out, e2 := quarrels.Out(e, 1)
	if !slices.Equal(left, []int{0, 2}) || !slices.Equal(out, []int{0}) || e1|e2 != api.OK {
		t.Errorf("Left = %v, %d; Out = %v, %d", left, e1, out, e2)
	}
	if out, f := quarrels.Out(e, 0); len(out) > 0 || f != api.ErrNone {
		t.Errorf("Out = %v, %d", out, f)
	}
	b1, e1 := quarrels.Between(e, 1, 0)
	b2, e2 := quarrels.Between(g, 0, 1)
	if b1 != (api.Span{Low: 0, High: 2}) || b2 != (api.Span{Low: 1, High: 2}) || e1|e2 != api.OK {
		t.Errorf("Between = %v, %d; %v, %d", b1, e1, b2, e2)
	}
	h1, e1 := quarrels.Harms(e, 1, 0, 1)
	h2, e2 := quarrels.Harms(e, 0, 1, 0)
	h3, e3 := quarrels.Harms(e, 0, 1, 1)
	if h1 != api.Perhaps || h2 != api.Surely || h3 != api.Never || e1|e2|e3 != api.OK {
		t.Errorf("Harms = %d, %d; %d, %d; %d, %d", h1, e1, h2, e2, h3, e3)
	}
	s1, e1 := quarrels.Total(e, []int{2, 3}, 0)
	s2, e2 := quarrels.Total(e, []int{2, 3}, 1)
	if s1 != (api.Span{Low: 6, High: 12}) || s2 != (api.Span{Low: 8, High: 8}) || e1|e2 != api.OK {
		t.Errorf("Total = %v, %d; %v, %d", s1, e1, s2, e2)
	}
	m1, e1 := quarrels.Blame(e, []int{1, 1}, 1)
	m2, e2 := quarrels.Blame(e, []int{1, 1}, 0)
	m3, e3 := quarrels.Blame(g, []int{1, 1}, 0)
	if m1|m2|m3 != 0 || e1 != api.OK || e2 != api.ErrNone || e3 != api.ErrNone {
		t.Errorf("Blame = %d, %d; %d, %d; %d, %d", m1, e1, m2, e2, m3, e3)
	}
	for n, test := range tests(1, 0, 0, 1, 0, 0) {
		if most, f := quarrels.Split(g, test); most != n+1 || f != api.OK {
			t.Errorf("Split = %d, %d", most, f)
		}
	}
	list, e1 := quarrels.Fewest(g)
	depth, e2 := quarrels.Depth(g)
	next, e3 := quarrels.Next(g)
	if !slices.Equal(list, tests(1, 0)) || depth != 1 || next != tests(1, 0)[0] || e1|e2|e3 != api.OK {
		t.Errorf("Fewest = %v, %d; Depth = %d, %d; Next = %v, %d", list, e1, depth, e2, next, e3)
	}
	d1, e1 := quarrels.Decide(g, 0, 1, 1)
	d2, e2 := quarrels.Decide(g, 1, 0, 1)
	d3, e3 := quarrels.Decide(e, 0, 1, 1)
	if !slices.Equal(d1, tests(1, 0)) || len(d2)+len(d3) > 0 || e1 != api.OK || e2 != api.ErrNone || e3 != api.OK {
		t.Errorf("Decide = %v, %d; %v, %d; %v, %d", d1, e1, d2, e2, d3, e3)
	}
}

func TestP5_2LeftP5_3Out(t *testing.T) {
	gone, stay := 0, 0
	eachTown(2, 2000, api.MaxQuarrelFacts, func(_ *rand.Rand, town api.QuarrelTown) {
		var left []int
		for n, w := range town.Worlds {
			var out []int
			for k, f := range town.Facts {
				if !holds(w, f) {
					out = append(out, k)
				}
			}
			want := api.OK
			if len(out) == 0 {
				left, want = append(left, n), api.ErrNone
				stay++
			} else {
				gone++
			}
			if l, e := quarrels.Out(town, n); !slices.Equal(l, out) || e != want {
				t.Errorf("Out(%v, %d) = %v, %d, not %v", town, n, l, e, out)
			}
		}
		if l, e := quarrels.Left(town); !slices.Equal(l, left) || e != api.OK {
			t.Errorf("Left(%v) = %v, %d, not %v", town, l, e, left)
		}
		for _, n := range []int{-1, len(town.Worlds), math.MinInt, math.MaxInt} {
			if l, e := quarrels.Out(town, n); len(l) > 0 || e != api.ErrArg {
				t.Errorf("Out(%v, %d) = %v, %d", town, n, l, e)
			}
		}
	})
	if gone < 500 || stay < 500 {
		t.Errorf("not all was tried: %d, %d", gone, stay)
	}
	// Both ends of 15 feet agree, and what is beyond does not.
	town := api.QuarrelTown{Wells: 1, Worlds: []api.QuarrelWorld{world(1, 5)}, Facts: facts(0, 3, 0, 15, 99, 0, 3, 0, 0, 15, 0, 3, 0, 15, 15, 0, 3, 0, 16, 99, 0, 3, 0, 0, 14)}
	if out, e := quarrels.Out(town, 0); !slices.Equal(out, []int{3, 4}) || e != api.OK {
		t.Errorf("Out(%v) = %v, %d", town, out, e)
	}
}

func TestP5_4BetweenP5_5Harms(t *testing.T) {
	counts := make(map[int]int)
	eachLeft(4, 1000, api.MaxQuarrelFacts, func(_ *rand.Rand, town api.QuarrelTown, left []api.QuarrelWorld) {
		for _, test := range allTests(town) {
			falls := fallsIn(left, test.From, test.To)
			if s, e := quarrels.Between(town, test.From, test.To); s != spanOf(falls) || e != api.OK {
				t.Errorf("Between(%v, %v) = %v, %d, not %v", town, test, s, e, falls)
			}
			for _, law := range []int{0, 1, 2, 3, 4, 5, 6, 7, 8, 9, 10, 99} {
				want := harmsOf(falls, law)
				counts[want]++
				if h, e := quarrels.Harms(town, test.From, test.To, law); h != want || e != api.OK {
					t.Errorf("Harms(%v, %v, %d) = %d, %d, not %d", town, test, law, h, e, want)
				}
			}
		}
	})
	if counts[api.Surely] < 1000 || counts[api.Never] < 1000 || counts[api.Perhaps] < 1000 {
		t.Errorf("not all was tried: %v", counts)
	}
}

func TestP5_6Total(t *testing.T) {
	wide := 0
	eachLeft(6, 1000, api.MaxQuarrelFacts, func(r *rand.Rand, town api.QuarrelTown, left []api.QuarrelWorld) {
		draws := someDraws(r, town, api.MaxQuarrelMany)
		for well := range town.Wells {
			var sums []int
			for _, w := range left {
				sum := 0
				for _, feet := range loweredIn(w, draws, well) {
					sum += feet
				}
				sums = append(sums, sum)
			}
			want := spanOf(sums)
			if want.Low < want.High {
				wide++
			}
			if s, e := quarrels.Total(town, draws, well); s != want || e != api.OK {
				t.Errorf("Total(%v, %v, %d) = %v, %d, not %v", town, draws, well, s, e, want)
			}
		}
	})
	if wide < 500 {
		t.Errorf("only %d spans of several numbers were tried", wide)
	}
	if s, e := quarrels.Total(widest(), []int{9, 9, 9, 9}, 0); s != (api.Span{Low: 315, High: 324}) || e != api.OK {
		t.Errorf("Total = %v, %d", s, e)
	}
}

func TestP5_7Blame(t *testing.T) {
	one, none, partly := 0, 0, 0
	eachLeft(7, 3000, api.MaxQuarrelFacts, func(r *rand.Rand, town api.QuarrelTown, left []api.QuarrelWorld) {
		draws := someDraws(r, town, 1+r.Intn(api.MaxQuarrelMany))
		for well := range town.Wells {
			first := blameIn(left[0], draws, well)
			want, fails := first, api.OK
			for _, w := range left {
				if blameIn(w, draws, well) != first {
					want = -1
				}
			}
			switch {
			case want >= 0:
				one++
			case first >= 0:
				partly++
			default:
				none++
			}
			if want == -1 {
				want, fails = 0, api.ErrNone
			}
			if well, e := quarrels.Blame(town, draws, well); well != want || e != fails {
				t.Errorf("Blame(%v, %v, %d) = %d, %d, not %d, %d", town, draws, well, well, e, want, fails)
			}
		}
	})
	if one < 500 || none < 500 || partly < 500 {
		t.Errorf("not all was tried: %d, %d, %d", one, none, partly)
	}
	// The well itself is never to blame, nor is one of two that lower it as much.
	town := api.QuarrelTown{Wells: 3, Worlds: []api.QuarrelWorld{world(3, 9, 0, 2, 4, 5, 2, 6, 0, 9)}}
	for _, x := range []struct {
		draws      []int
		well, want int
		e          api.Errno
	}{{[]int{9, 1, 1}, 0, 2, 0}, {[]int{9, 3, 2}, 0, 0, 3}, {[]int{9, 2, 1}, 0, 1, 0}, {[]int{9, 0, 0}, 0, 0, 3}, {[]int{0, 0, 0}, 0, 0, 3}, {[]int{9, 9, 9}, 1, 0, 3}, {[]int{1, 1, 1}, 2, 0, 3}, {[]int{2, 1, 9}, 2, 0, 0}, {[]int{1, 0, 0}, 2, 0, 0}} {
		if well, e := quarrels.Blame(town, x.draws, x.well); well != x.want || e != x.e {
			t.Errorf("%v: Blame = %d, %d", x, well, e)
		}
	}
}

func TestP5_8Split(t *testing.T) {
	counts := make(map[int]int)
	eachLeft(8, 1000, api.MaxQuarrelFacts, func(_ *rand.Rand, town api.QuarrelTown, left []api.QuarrelWorld) {
		for _, test := range allTests(town) {
			want := 0
			for _, part := range groups(left, test) {
				want = max(want, len(part))
			}
			counts[want]++
			if most, e := quarrels.Split(town, test); most != want || e != api.OK {
				t.Errorf("Split(%v, %v) = %d, %d, not %d", town, test, most, e, want)
			}
		}
	})
	for n := 1; n <= api.MaxQuarrelWorlds; n++ {
		if counts[n] < 50 {
			t.Errorf("not all was tried: %v", counts)
		}
	}
	// Worlds that are alike are counted each.
	if most, e := quarrels.Split(alike(), api.QuarrelTest{}); most != 3 || e != api.OK {
		t.Errorf("Split = %d, %d", most, e)
	}
}

func TestP5_9Fewest(t *testing.T) {
	counts := make(map[int]int)
	eachLeft(9, 4000, 2, func(_ *rand.Rand, town api.QuarrelTown, left []api.QuarrelWorld) {
		want, _ := leastTests(left, allTests(town), func(a, b api.QuarrelWorld) bool { return !areAlike(a, b) })
		counts[len(want)]++
		if list, e := quarrels.Fewest(town); !slices.Equal(list, want) || e != api.OK {
			t.Errorf("Fewest(%v) = %v, %d, not %v", town, list, e, want)
		}
	})
	for n := range 5 {
		if counts[n] < 10 {
			t.Errorf("not all was tried: %v", counts)
		}
	}
	if list, e := quarrels.Fewest(widest()); !slices.Equal(list, tests(2, 3, 3, 0, 3, 1, 3, 2, 3, 3)) || e != api.OK {
		t.Errorf("Fewest = %v, %d", list, e)
	}
}

func TestP5_10Decide(t *testing.T) {
	counts := make(map[int]int)
	eachLeft(10, 2000, 2, func(r *rand.Rand, town api.QuarrelTown, left []api.QuarrelWorld) {
		for _, test := range allTests(town) {
			law := r.Intn(4)
			if r.Intn(4) == 0 {
				law = r.Intn(api.MaxQuarrelFall)
			}
			others := slices.DeleteFunc(allTests(town), func(other api.QuarrelTest) bool { return other == test })
			want, is := leastTests(left, others, func(a, b api.QuarrelWorld) bool {
				return (shownIn(a, test) > law) != (shownIn(b, test) > law)
			})
			fails := api.OK
			if is {
				counts[len(want)]++
			} else {
				fails = api.ErrNone
				counts[-1]++
			}
			if list, e := quarrels.Decide(town, test.From, test.To, law); !slices.Equal(list, want) || e != fails {
				t.Errorf("Decide(%v, %v, %d) = %v, %d, not %v, %v", town, test, law, list, e, want, is)
			}
		}
	})
	for n := -1; n < 4; n++ {
		if counts[n] < 10 {
			t.Errorf("not all was tried: %v", counts)
		}
	}
	// No law that is greater than all falls needs a test.
	for law, want := range map[int]api.Errno{7: api.OK, 8: api.ErrNone, 9: api.OK, 99: api.OK} {
		if list, e := quarrels.Decide(widest(), 3, 3, law); len(list) > 0 || e != want {
			t.Errorf("Decide with %d = %v, %d", law, list, e)
		}
	}
}

func TestP5_11DepthP5_12Next(t *testing.T) {
	counts := make(map[int]int)
	later, shallow, wider := 0, 0, 0
	eachLeft(11, 1500, 2, func(_ *rand.Rand, town api.QuarrelTown, left []api.QuarrelWorld) {
		want := 0
		for !suffices(town, left, want) {
			want++
		}
		counts[want]++
		if depth, e := quarrels.Depth(town); depth != want || e != api.OK {
			t.Errorf("Depth(%v) = %d, %d, not %d", town, depth, e, want)
		}
		next, e := quarrels.Next(town)
		if want == 0 {
			if next != (api.QuarrelTest{}) || e != api.ErrNone {
				t.Errorf("Next(%v) = %v, %d", town, next, e)
			}
			return
		}
		all := allTests(town)
		first := all[slices.IndexFunc(all, func(test api.QuarrelTest) bool { return beginsWell(town, left, test, want) })]
		if next != first || e != api.OK {
			t.Errorf("Next(%v) = %v, %d, not %v", town, next, e, first)
		}
		if one := slices.IndexFunc(all, func(test api.QuarrelTest) bool { return len(groups(left, test)) > 1 }); first != all[one] {
			later++
		}
		if want < len(fewestOf(town)) {
			shallow++
		}
		most, _ := quarrels.Split(town, first)
		if slices.ContainsFunc(all, func(test api.QuarrelTest) bool { n, _ := quarrels.Split(town, test); return n < most }) {
			wider++
		}
	})
	for n := range 4 {
		if counts[n] < 10 {
			t.Errorf("not all was tried: %v", counts)
		}
	}
	if later < 100 || shallow < 5 || wider < 20 {
		t.Errorf("not all was tried: %d, %d, %d", later, shallow, wider)
	}
	next, e := quarrels.Next(widest())
	if depth := depthOf(widest()); depth != 5 || next != (api.QuarrelTest{From: 2, To: 3}) || e != api.OK {
		t.Errorf("Depth = %d; Next = %v, %d", depth, next, e)
	}
}

func TestNilAndEmpty(t *testing.T) {
	for _, town := range []api.QuarrelTown{{}, {Worlds: []api.QuarrelWorld{{}}}, {Wells: 2}} {
		other := clone(town)
		if other.Facts = []api.QuarrelFact{}; other.Worlds == nil {
			other.Worlds = []api.QuarrelWorld{}
		}
		for n := range other.Worlds {
			other.Worlds[n].Falls = [][]int{}
		}
		for _, a := range []asked{{}, {0, 0, 1, 99, []int{0, 0}}, {-1, 2, 0, 0, []int{1}}} {
			b := a
			if a.draws == nil {
				b.draws = []int{}
			}
			one, _ := errors(town, a)
			two, _ := errors(other, b)
			if quarrels.Check(town) != quarrels.Check(other) || !slices.Equal(one, two) || !slices.Equal(leftOf(town), leftOf(other)) || depthOf(town) != depthOf(other) {
				t.Errorf("%v and %v are not the same: %v, %v", town, other, one, two)
			}
		}
	}
}

func TestMemory(t *testing.T) {
	town, draws := townE(), []int{2, 3}
	town.Facts = append(town.Facts, facts(1, 1, 1, 2, 2)...)
	before := clone(town)
	for range 2 {
		left, _ := quarrels.Left(town)
		out, _ := quarrels.Out(town, 1)
		fewest, _ := quarrels.Fewest(town)
		decide, _ := quarrels.Decide(townG(), 0, 1, 1)
		if !slices.Equal(left, []int{0, 2}) || !slices.Equal(out, []int{0}) || !slices.Equal(fewest, tests(1, 0)) || !slices.Equal(decide, tests(1, 0)) {
			t.Errorf("Left = %v, Out = %v, Fewest = %v, Decide = %v", left, out, fewest, decide)
		}
		clear(left)
		clear(out)
		clear(fewest)
		clear(decide)
		errors(town, asked{0, 1, 0, 1, draws})
		if !same(town, before) || !slices.Equal(draws, []int{2, 3}) {
			t.Errorf("the town has changed: %v, %v", town, draws)
		}
	}
}

// anyNumber returns a number that may be far outside what is allowed.
func anyNumber(r *rand.Rand) int {
	switch r.Intn(16) {
	case 0:
		return math.MinInt
	case 1:
		return math.MaxInt
	case 2:
		return 90 + r.Intn(15)
	}
	return r.Intn(14) - 2
}

// anyNumbers returns a list of such numbers.
func anyNumbers(r *rand.Rand) []int {
	var list []int
	for range r.Intn(7) {
		list = append(list, anyNumber(r))
	}
	return list
}

// isTown reports whether a town is as the chapter says, number by number.
func isTown(t api.QuarrelTown) bool {
	is := t.Wells >= 0 && t.Wells <= 4 && len(t.Worlds) <= 6 && len(t.Facts) <= 6
	for _, w := range t.Worlds {
		is = is && len(w.Falls) == t.Wells
		for _, falls := range w.Falls {
			is = is && len(falls) == t.Wells
			for _, fall := range falls {
				is = is && fall >= 0 && fall <= 9
			}
		}
	}
	for _, f := range t.Facts {
		is = is && f.From >= 0 && f.From < t.Wells && f.To >= 0 && f.To < t.Wells
		is = is && f.Many >= 1 && f.Many <= 9 && f.Low >= 0 && f.Low <= f.High && f.High <= 99
	}
	return is
}

func TestP1Quarrels(t *testing.T) {
	r := rand.New(rand.NewSource(1))
	good, bad := 0, 0
	for range 20000 {
		town := someTown(r, 3, api.MaxQuarrelWorlds+1, api.MaxQuarrelFacts+1)
		if r.Intn(3) == 0 {
			town.Wells = anyNumber(r)
		}
		for range r.Intn(2) {
			town.Facts = append(town.Facts, api.QuarrelFact{From: anyNumber(r), Many: anyNumber(r), To: anyNumber(r), Low: anyNumber(r), High: anyNumber(r)})
		}
		for n := range town.Worlds {
			if r.Intn(20) == 0 {
				town.Worlds[n] = api.QuarrelWorld{Falls: [][]int{anyNumbers(r), anyNumbers(r)}}
			}
		}
		a := asked{anyNumber(r), anyNumber(r), anyNumber(r), anyNumber(r), anyNumbers(r)}
		list, zero := errors(town, a)
		left, f := quarrels.Left(town)
		is := isTown(town)
		if is {
			good++
		} else {
			bad++
		}
		if e := quarrels.Check(town); (e == api.OK) != is || is == areAll(append(list, e, f), api.ErrQuarrel) || !is && (!zero || len(left) > 0) {
			t.Errorf("%v: Check = %d, errors %v, zero %v", town, e, list, zero)
		}
	}
	if good < 2000 || bad < 2000 {
		t.Errorf("not all was tried: %d, %d", good, bad)
	}
	if list, _ := errors(widest(), asked{5, 3, 3, 99, []int{9, 9, 9, 9}}); slices.Contains(list, api.ErrQuarrel) || slices.Contains(list, api.ErrArg) {
		t.Errorf("the widest town is refused: %v", list)
	}
}
