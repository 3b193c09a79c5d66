package mouths_test

import (
	"math"
	"math/rand"
	"slices"
	"testing"

	"steening/api"
	"steening/mouths"
)

// invalid returns boxes that are not valid, each for one reason.
func invalid() map[string]api.MouthBox {
	list := map[string]api.MouthBox{
		"6 quarters":    wide(1, 1, 1, 1, 1, 1),
		"many quarters": wide(slices.Repeat(list(1), 100)...),
		"only shares":   {Shares: list(1)},
		"only mosts":    {Mosts: list(1)},
		"6 shares":      box(slices.Repeat(list(1), 6), list(1, 1, 1, 1, 1)),
		"6 mosts":       box(list(1, 1, 1, 1, 1), slices.Repeat(list(1), 6)),
	}
	for name, change := range map[string]func(b *api.MouthBox){
		"a share less": func(b *api.MouthBox) { b.Shares = b.Shares[:2] },
		"a most less":  func(b *api.MouthBox) { b.Mosts = b.Mosts[:2] },
		"share -1":     func(b *api.MouthBox) { b.Shares[0] = -1 },
		"share 21":     func(b *api.MouthBox) { b.Shares[2] = 21 },
		"share least":  func(b *api.MouthBox) { b.Shares[1] = math.MinInt },
		"share most":   func(b *api.MouthBox) { b.Shares[1] = math.MaxInt },
		"most -1":      func(b *api.MouthBox) { b.Mosts[2] = -1 },
		"most 21":      func(b *api.MouthBox) { b.Mosts[0] = 21 },
		"most least":   func(b *api.MouthBox) { b.Mosts[1] = math.MinInt },
		"most most":    func(b *api.MouthBox) { b.Mosts[1] = math.MaxInt },
		"shares 0":     func(b *api.MouthBox) { b.Shares[0], b.Shares[1], b.Shares[2], b.Mosts[1] = 0, 0, 0, 21 },
		"mosts 0":      func(b *api.MouthBox) { b.Mosts[0], b.Mosts[1], b.Mosts[2], b.Shares[1] = 0, 0, 0, -1 },
	} {
		list[name] = with(boxM(), change)
	}
	return list
}

// asked is what the functions are asked for.
type asked struct {
	quarter, flow, high, gauges, gauge int
}

// errors returns what each function but Check returns as an error, and reports
// whether each result beside an error is its zero value.
func errors(b api.MouthBox, a asked) (list []api.Errno, zero bool) {
	zero = true
	add := func(e api.Errno, isZero bool) {
		list = append(list, e)
		zero = zero && (e == api.OK || isZero)
	}
	gauges, e := mouths.Gauges(b, a.flow)
	add(e, len(gauges) == 0)
	over, e := mouths.Over(b, a.flow)
	add(e, over == 0)
	turn, e := mouths.Turn(b, a.gauge)
	add(e, turn == 0)
	from, e := mouths.From(b, a.quarter, a.gauges)
	add(e, from == 0)
	between, e := mouths.Between(b, a.flow, a.high)
	add(e, len(between) == 0)
	need, e := mouths.Need(b, a.quarter, a.flow, a.gauges)
	add(e, need == 0)
	exact, e := mouths.Exact(b, a.flow)
	add(e, len(exact) == 0)
	remainders, e := mouths.Remainders(b, a.flow)
	add(e, len(remainders) == 0)
	paradox, e := mouths.Paradox(b)
	add(e, paradox == 0)
	differ, e := mouths.Differ(b)
	add(e, differ == 0)
	served, e := mouths.Served(b, a.flow)
	add(e, served == 0)
	return list, zero
}

// areAll reports whether all errors are the same one.
func areAll(list []api.Errno, e api.Errno) bool {
	return !slices.ContainsFunc(list, func(other api.Errno) bool { return other != e })
}

func TestP7_1Check(t *testing.T) {
	for n, b := range plain() {
		if e := mouths.Check(b); e != api.OK {
			t.Errorf("%d: Check = %d", n, e)
		}
	}
	for name, b := range invalid() {
		if e := mouths.Check(b); e != api.ErrMouth {
			t.Errorf("%s: Check = %d", name, e)
		}
		// ErrMouth is named first, whatever else is wrong.
		for _, n := range list(0, 1, -1, 5, 20, 21, 41, math.MinInt, math.MaxInt) {
			for _, a := range []asked{{n, n, n, n, n}, {0, n, 40, 1, 0}, {n, 0, 0, 1, 39}} {
				list, zero := errors(b, a)
				if !areAll(list, api.ErrMouth) || !zero {
					t.Errorf("%s: %v: errors %v, zero %v", name, a, list, zero)
				}
			}
		}
	}
}

func TestErrors(t *testing.T) {
	for name, x := range map[string]struct {
		b    api.MouthBox
		a    asked
		want []api.Errno
	}{
		"M":           {boxM(), asked{0, 5, 5, 3, 26}, []api.Errno{0, 0, 0, 0, 0, 0, 0, 0, 0, 0, 0}},
		"not of M":    {boxM(), asked{2, 5, 40, 10, 27}, []api.Errno{0, 0, 3, 3, 0, 3, 0, 0, 0, 0, 0}},
		"the least":   {boxM(), asked{0, 0, 0, 1, 0}, []api.Errno{0, 0, 0, 0, 0, 3, 0, 0, 0, 0, 0}},
		"the most":    {widest(), asked{4, 40, 40, 20, 39}, []api.Errno{0, 0, 0, 3, 0, 3, 0, 0, 3, 3, 0}},
		"no quarters": {api.MouthBox{}, asked{0, 0, 0, 1, 0}, []api.Errno{0, 0, 3, 1, 0, 1, 0, 0, 3, 3, 3}},
		"shares 0":    {wide(0, 0), asked{1, 40, 40, 1, 0}, []api.Errno{0, 0, 3, 3, 0, 0, 0, 0, 3, 3, 3}},
		"mosts 0":     {box(list(2, 1), list(0, 0)), asked{1, 40, 40, 1, 0}, []api.Errno{0, 0, 3, 3, 0, 3, 0, 0, 3, 0, 0}},
	} {
		if list, zero := errors(x.b, x.a); !slices.Equal(list, x.want) || !zero {
			t.Errorf("%s: errors %v, zero %v", name, list, zero)
		}
	}
	// ErrArg comes before ErrNone: most of these boxes have nothing to give.
	for _, b := range []api.MouthBox{boxM(), boxN(), wide(0, 0, 0), box(list(5, 3, 1), list(0, 0, 0)), wide(20, 0, 0)} {
		for _, x := range []struct {
			a    asked
			args []int // the functions for which it is no good
		}{
			{asked{2, 40, 40, 20, 39}, nil},
			{asked{0, 0, 0, 1, 0}, nil},
			{asked{-1, 0, 0, 1, 0}, list(3, 5)},
			{asked{3, 0, 0, 1, 0}, list(3, 5)},
			{asked{math.MinInt, 0, 0, 1, 0}, list(3, 5)},
			{asked{math.MaxInt, 0, 0, 1, 0}, list(3, 5)},
			{asked{0, 0, 0, 0, 0}, list(3, 5)},
			{asked{0, 0, 0, -1, 0}, list(3, 5)},
			{asked{0, 0, 0, 21, 0}, list(3, 5)},
			{asked{0, 0, 0, math.MinInt, 0}, list(3, 5)},
			{asked{0, 0, 0, math.MaxInt, 0}, list(3, 5)},
			{asked{0, -1, 0, 1, 0}, list(0, 1, 4, 5, 6, 7, 10)},
			{asked{0, -1, -1, 1, 0}, list(0, 1, 4, 5, 6, 7, 10)},
			{asked{0, 41, 41, 1, 0}, list(0, 1, 4, 5, 6, 7, 10)},
			{asked{0, 41, 40, 1, 0}, list(0, 1, 4, 5, 6, 7, 10)},
			{asked{0, math.MinInt, 40, 1, 0}, list(0, 1, 4, 5, 6, 7, 10)},
			{asked{0, math.MaxInt, 40, 1, 0}, list(0, 1, 4, 5, 6, 7, 10)},
			{asked{0, math.MinInt, math.MaxInt, 1, 0}, list(0, 1, 4, 5, 6, 7, 10)},
			{asked{0, 4, 3, 1, 0}, list(4)},
			{asked{0, 40, 39, 1, 0}, list(4)},
			{asked{0, 40, 0, 1, 0}, list(4)},
			{asked{0, 0, -1, 1, 0}, list(4)},
			{asked{0, 0, 41, 1, 0}, list(4)},
			{asked{0, 40, 41, 1, 0}, list(4)},
			{asked{0, 0, math.MinInt, 1, 0}, list(4)},
			{asked{0, 0, math.MaxInt, 1, 0}, list(4)},
			{asked{0, 0, 0, 1, -1}, list(2)},
			{asked{0, 0, 0, 1, 40}, list(2)},
			{asked{0, 0, 0, 1, math.MinInt}, list(2)},
			{asked{0, 0, 0, 1, math.MaxInt}, list(2)},
		} {
			list, zero := errors(b, x.a)
			for n, e := range list {
				if slices.Contains(x.args, n) != (e == api.ErrArg) || !zero {
					t.Errorf("%v: %v: errors %v, zero %v", b, x.a, list, zero)
				}
			}
		}
	}
}

func TestExamples(t *testing.T) {
	m, n := boxM(), boxN()
	for _, x := range []struct {
		b      api.MouthBox
		flow   int
		gauges []int
		over   int
	}{{m, 4, list(3, 1, 0), 0}, {m, 6, list(3, 2, 1), 0}, {m, 0, list(0, 0, 0), 0}, {n, 6, list(2, 1, 0), 3}, {m, 40, list(9, 9, 9), 13}} {
		l, e := mouths.Gauges(x.b, x.flow)
		over, f := mouths.Over(x.b, x.flow)
		if !slices.Equal(l, x.gauges) || over != x.over || e|f != api.OK {
			t.Errorf("%v, %d: Gauges = %v, %d; Over = %d, %d", x.b, x.flow, l, e, over, f)
		}
	}
	for gauge, want := range map[int]int{0: 0, 2: 0, 3: 0, 5: 2} {
		if quarter, e := mouths.Turn(m, gauge); quarter != want || e != api.OK {
			t.Errorf("Turn of %d = %d, %d", gauge, quarter, e)
		}
	}
	if quarter, e := mouths.Turn(n, 3); quarter != 0 || e != api.ErrNone {
		t.Errorf("Turn of N = %d, %d", quarter, e)
	}
	a, e := mouths.From(m, 2, 1)
	b, f := mouths.From(m, 0, 3)
	c, g := mouths.From(n, 0, 3)
	if a != 6 || b != 4 || c != 0 || e|f != api.OK || g != api.ErrNone {
		t.Errorf("From = %d, %d; %d, %d; %d, %d", a, e, b, f, c, g)
	}
	if s, e := mouths.Between(m, 4, 6); !slices.Equal(s, []api.Span{span(3, 3), span(1, 2), span(0, 1)}) || e != api.OK {
		t.Errorf("Between = %v, %d", s, e)
	}
	if share, e := mouths.Need(m, 2, 4, 1); share != 2 || e != api.OK {
		t.Errorf("Need = %d, %d", share, e)
	}
	for flow, want := range map[int]int{4: 2, 6: 0} {
		if quarter, e := mouths.Served(m, flow); quarter != want || e != api.OK {
			t.Errorf("Served of %d = %d, %d", flow, quarter, e)
		}
	}
	if l, e := mouths.Exact(m, 4); !slices.Equal(l, []api.Ratio{ratio(20, 9), ratio(4, 3), ratio(4, 9)}) || e != api.OK {
		t.Errorf("Exact = %v, %d", l, e)
	}
	for flow, want := range map[int][]int{4: list(2, 1, 1), 5: list(3, 2, 0)} {
		if l, e := mouths.Remainders(m, flow); !slices.Equal(l, want) || e != api.OK {
			t.Errorf("Remainders of %d = %v, %d", flow, l, e)
		}
	}
	paradox, e := mouths.Paradox(m)
	differ, f := mouths.Differ(m)
	if paradox != 4 || differ != 4 || e|f != api.OK {
		t.Errorf("Paradox = %d, %d; Differ = %d, %d", paradox, e, differ, f)
	}
}

func TestP7_2GaugesP7_3Over(t *testing.T) {
	full, over := 0, 0
	eachFlow(2, 600, func(_ *rand.Rand, b api.MouthBox, flow int) {
		want := divisionOf(b, flow)
		if l, e := mouths.Gauges(b, flow); !slices.Equal(l, want) || e != api.OK {
			t.Errorf("Gauges(%v, %d) = %v, %d, not %v", b, flow, l, e, want)
		}
		if n, e := mouths.Over(b, flow); n != flow-sumOf(want) || e != api.OK {
			t.Errorf("Over(%v, %d) = %d, %d, not %d", b, flow, n, e, flow-sumOf(want))
		}
		if sumOf(want) < flow {
			over++
		}
		for quarter, gauges := range want {
			if gauges > 0 && gauges == b.Mosts[quarter] && sumOf(want) == flow {
				full++
			}
		}
	})
	if full < 1000 || over < 1000 {
		t.Errorf("not all was tried: %d, %d", full, over)
	}
	for _, x := range []struct {
		b    api.MouthBox
		flow int
		want []int
		over int
	}{
		// Of several the first one, wherever they are.
		{wide(4, 4, 4), 1, list(1, 0, 0), 0},
		{wide(4, 4, 4), 5, list(2, 2, 1), 0},
		{wide(1, 3, 3), 1, list(0, 1, 0), 0},
		{wide(1, 3), 2, list(1, 1), 0},
		{wide(3, 1), 2, list(2, 0), 0},
		{wide(1, 5, 3), 4, list(1, 2, 1), 0},
		{widest(), 40, list(8, 8, 8, 8, 8), 0},
		// Who has no share has nothing, whatever overflows.
		{wide(0, 1, 0), 40, list(0, 20, 0), 20},
		{wide(0, 0), 7, list(0, 0), 7},
		{box(list(20, 1), list(0, 3)), 2, list(0, 2), 0},
		{box(list(20, 1), list(0, 3)), 4, list(0, 3), 1},
		{box(list(20, 20), list(0, 0)), 40, list(0, 0), 40},
		{wide(20), 20, list(20), 0},
		{wide(20), 21, list(20), 1},
		{wide(1, 20), 11, list(1, 10), 0},
		{wide(20, 1), 10, list(10, 0), 0},
		{api.MouthBox{}, 0, nil, 0},
		{api.MouthBox{}, 40, nil, 40},
	} {
		l, e := mouths.Gauges(x.b, x.flow)
		over, f := mouths.Over(x.b, x.flow)
		if !slices.Equal(l, x.want) || over != x.over || e|f != api.OK {
			t.Errorf("%v, %d: Gauges = %v, %d; Over = %d, %d", x.b, x.flow, l, e, over, f)
		}
	}
}

func TestP7_4Turn(t *testing.T) {
	none := 0
	eachBox(4, 1500, func(_ *rand.Rand, b api.MouthBox) {
		turns := turnsOf(b)
		for gauge := range api.MaxMouthFlow {
			quarter, e := mouths.Turn(b, gauge)
			if gauge >= len(turns) {
				none++
				if quarter != 0 || e != api.ErrNone {
					t.Errorf("Turn(%v, %d) = %d, %d", b, gauge, quarter, e)
				}
			} else if quarter != turns[gauge] || e != api.OK {
				t.Errorf("Turn(%v, %d) = %d, %d, not %d", b, gauge, quarter, e, turns[gauge])
			}
		}
	})
	if none < 1000 {
		t.Errorf("only %d gauges that overflow were tried", none)
	}
	for _, x := range []struct {
		b           api.MouthBox
		gauge, want int
		e           api.Errno
	}{
		{wide(1, 1), 39, 1, api.OK},
		{wide(1, 1), 38, 0, api.OK},
		{box(list(1, 1), list(19, 20)), 38, 1, api.OK},
		{box(list(1, 1), list(19, 20)), 39, 0, api.ErrNone},
		{wide(0), 0, 0, api.ErrNone},
		{api.MouthBox{}, 0, 0, api.ErrNone},
		{api.MouthBox{}, 39, 0, api.ErrNone},
	} {
		if quarter, e := mouths.Turn(x.b, x.gauge); quarter != x.want || e != x.e {
			t.Errorf("Turn(%v, %d) = %d, %d", x.b, x.gauge, quarter, e)
		}
	}
}

func TestP7_5From(t *testing.T) {
	some, none := 0, 0
	eachBox(5, 600, func(_ *rand.Rand, b api.MouthBox) {
		all := divisionsOf(b)
		for quarter := range b.Shares {
			for gauges := 1; gauges <= api.MaxMouthMost; gauges++ {
				want := slices.IndexFunc(all, func(has []int) bool { return has[quarter] >= gauges })
				flow, e := mouths.From(b, quarter, gauges)
				if want < 0 {
					none++
					if flow != 0 || e != api.ErrNone {
						t.Errorf("From(%v, %d, %d) = %d, %d", b, quarter, gauges, flow, e)
					}
					continue
				}
				some++
				if flow != want || e != api.OK {
					t.Errorf("From(%v, %d, %d) = %d, %d, not %d", b, quarter, gauges, flow, e, want)
				}
			}
		}
	})
	if some < 1000 || none < 1000 {
		t.Errorf("not all was tried: %d, %d", some, none)
	}
	for _, x := range []struct {
		b                     api.MouthBox
		quarter, gauges, want int
		e                     api.Errno
	}{
		// The greatest flow is still one.
		{wide(1, 1), 0, 20, 39, api.OK},
		{wide(1, 1), 1, 20, 40, api.OK},
		{box(list(1, 1, 9), list(20, 20, 1)), 0, 20, 40, api.OK},
		{box(list(1, 1, 9), list(20, 20, 1)), 1, 20, 0, api.ErrNone},
		{widest(), 4, 8, 40, api.OK},
		{widest(), 0, 9, 0, api.ErrNone},
		{wide(20), 0, 20, 20, api.OK},
		{box(list(20), list(19)), 0, 20, 0, api.ErrNone},
		{wide(0, 1), 0, 1, 0, api.ErrNone},
	} {
		if flow, e := mouths.From(x.b, x.quarter, x.gauges); flow != x.want || e != x.e {
			t.Errorf("From(%v, %d, %d) = %d, %d", x.b, x.quarter, x.gauges, flow, e)
		}
	}
}

func TestP7_6Between(t *testing.T) {
	eachBox(6, 60, func(_ *rand.Rand, b api.MouthBox) {
		all := divisionsOf(b)
		for low := range all {
			for high := low; high < len(all); high++ {
				want := make([]api.Span, len(b.Shares))
				for quarter := range want {
					want[quarter] = span(math.MaxInt, math.MinInt)
					for _, has := range all[low : high+1] {
						s := &want[quarter]
						s.Low, s.High = min(s.Low, has[quarter]), max(s.High, has[quarter])
					}
				}
				if l, e := mouths.Between(b, low, high); !slices.Equal(l, want) || e != api.OK {
					t.Errorf("Between(%v, %d, %d) = %v, %d, not %v", b, low, high, l, e, want)
				}
			}
		}
	})
	if l, e := mouths.Between(wide(1, 0), 0, 40); !slices.Equal(l, []api.Span{span(0, 20), span(0, 0)}) || e != api.OK {
		t.Errorf("Between = %v, %d", l, e)
	}
	if l, e := mouths.Between(api.MouthBox{}, 0, 40); len(l) != 0 || e != api.OK {
		t.Errorf("Between = %v, %d", l, e)
	}
	if l, e := mouths.Between(boxM(), 6, 4); len(l) != 0 || e != api.ErrArg {
		t.Errorf("Between = %v, %d", l, e)
	}
}

func TestP7_7Need(t *testing.T) {
	some, none, less := 0, 0, 0
	eachBox(7, 3000, func(r *rand.Rand, b api.MouthBox) {
		for quarter := range b.Shares {
			flow, gauges, want := r.Intn(api.MaxMouthFlow+1), 1+r.Intn(1+r.Intn(api.MaxMouthMost)), -1
			for share := api.MaxMouthShare; share >= 0; share-- {
				if divisionOf(withShare(b, quarter, share), flow)[quarter] >= gauges {
					want = share
				}
			}
			share, e := mouths.Need(b, quarter, flow, gauges)
			if want < 0 {
				none++
				if share != 0 || e != api.ErrNone {
					t.Errorf("Need(%v, %d, %d, %d) = %d, %d", b, quarter, flow, gauges, share, e)
				}
				continue
			}
			some++
			if want < b.Shares[quarter] {
				less++
			}
			if share != want || e != api.OK {
				t.Errorf("Need(%v, %d, %d, %d) = %d, %d, not %d", b, quarter, flow, gauges, share, e, want)
			}
		}
	})
	if some < 1000 || none < 1000 || less < 500 {
		t.Errorf("not all was tried: %d, %d, %d", some, none, less)
	}
	for _, x := range []struct {
		b                           api.MouthBox
		quarter, flow, gauges, want int
		e                           api.Errno
	}{
		// The greatest share is still one, and is enough for the first quarter.
		{wide(0, 20), 0, 1, 1, 20, api.OK},
		{wide(20, 0), 1, 1, 1, 0, api.ErrNone},
		{wide(20, 0), 1, 2, 1, 7, api.OK},
		{wide(0, 20), 0, 2, 1, 7, api.OK},
		// As much is enough for the first quarter, and not for another one.
		{wide(0, 3), 0, 2, 1, 1, api.OK},
		{wide(3, 0), 1, 2, 1, 2, api.OK},
		// It can be less than what the quarter has.
		{boxM(), 0, 4, 1, 1, api.OK},
		{wide(0), 0, 40, 20, 1, api.OK},
		{wide(9), 0, 1, 1, 1, api.OK},
		// The flow and the mosts stay what they are.
		{wide(9), 0, 0, 1, 0, api.ErrNone},
		{wide(9), 0, 4, 5, 0, api.ErrNone},
		{box(list(9), list(4)), 0, 40, 4, 1, api.OK},
		{box(list(9), list(4)), 0, 40, 5, 0, api.ErrNone},
		{box(list(20, 0), list(3, 20)), 1, 40, 20, 1, api.OK},
		{wide(20, 1), 1, 39, 20, 0, api.ErrNone},
		{wide(1, 20), 0, 39, 20, 20, api.OK},
		{wide(20, 1), 1, 40, 20, 1, api.OK},
	} {
		if share, e := mouths.Need(x.b, x.quarter, x.flow, x.gauges); share != x.want || e != x.e {
			t.Errorf("Need(%v, %d, %d, %d) = %d, %d", x.b, x.quarter, x.flow, x.gauges, share, e)
		}
	}
}

func TestP7_8Exact(t *testing.T) {
	reduced := 0
	eachFlow(8, 300, func(_ *rand.Rand, b api.MouthBox, flow int) {
		parts, e := mouths.Exact(b, flow)
		if e != api.OK || len(parts) != len(b.Shares) {
			t.Errorf("Exact(%v, %d) = %v, %d", b, flow, parts, e)
			return
		}
		all := max(1, sumOf(b.Shares))
		for quarter, part := range parts {
			if part.Den < 1 || part.Num*all != flow*b.Shares[quarter]*part.Den || divides(part) {
				t.Errorf("Exact(%v, %d) = %v", b, flow, parts)
			}
			if part.Den > 1 && part.Den < all {
				reduced++
			}
		}
	})
	if reduced < 1000 {
		t.Errorf("only %d fractions in lower terms were tried", reduced)
	}
	for _, x := range []struct {
		b    api.MouthBox
		flow int
		want []api.Ratio
	}{
		{wide(0, 0), 7, []api.Ratio{ratio(0, 1), ratio(0, 1)}},
		{wide(0, 3), 7, []api.Ratio{ratio(0, 1), ratio(7, 1)}},
		{wide(3, 3), 0, []api.Ratio{ratio(0, 1), ratio(0, 1)}},
		{wide(4, 2), 5, []api.Ratio{ratio(10, 3), ratio(5, 3)}},
		// The mosts do not matter.
		{box(list(4, 2), list(0, 0)), 5, []api.Ratio{ratio(10, 3), ratio(5, 3)}},
		{wide(20), 40, []api.Ratio{ratio(40, 1)}},
		{api.MouthBox{}, 40, nil},
	} {
		if l, e := mouths.Exact(x.b, x.flow); !slices.Equal(l, x.want) || e != api.OK {
			t.Errorf("Exact(%v, %d) = %v, %d", x.b, x.flow, l, e)
		}
	}
}

func TestP7_9Remainders(t *testing.T) {
	eachFlow(9, 1000, func(_ *rand.Rand, b api.MouthBox, flow int) {
		want := remaindersOf(b, flow)
		if l, e := mouths.Remainders(b, flow); !slices.Equal(l, want) || e != api.OK {
			t.Errorf("Remainders(%v, %d) = %v, %d, not %v", b, flow, l, e, want)
		}
	})
	for _, x := range []struct {
		b    api.MouthBox
		flow int
		want []int
	}{
		// Of several the first ones, and one to each.
		{wide(1, 1, 1), 1, list(1, 0, 0)},
		{wide(1, 1, 1), 2, list(1, 1, 0)},
		{wide(2, 2, 2), 5, list(2, 2, 1)},
		{wide(1, 3, 3), 2, list(0, 1, 1)},
		{wide(1, 3, 3), 1, list(0, 1, 0)},
		{wide(5, 5, 5, 5, 5), 4, list(1, 1, 1, 1, 0)},
		// Nothing is cut off of who has no share.
		{wide(0, 2, 0, 2), 3, list(0, 2, 0, 1)},
		{wide(0, 0, 0), 40, list(0, 0, 0)},
		{wide(0, 7), 40, list(0, 40)},
		// The mosts do not matter.
		{box(list(5, 3, 1), list(0, 0, 0)), 4, list(2, 1, 1)},
		{wide(20), 40, list(40)},
		{widest(), 40, list(8, 8, 8, 8, 8)},
		{widest(), 39, list(8, 8, 8, 8, 7)},
		{boxM(), 0, list(0, 0, 0)},
		{api.MouthBox{}, 40, nil},
	} {
		if l, e := mouths.Remainders(x.b, x.flow); !slices.Equal(l, x.want) || e != api.OK {
			t.Errorf("Remainders(%v, %d) = %v, %d", x.b, x.flow, l, e)
		}
	}
}

func TestP7_10Paradox(t *testing.T) {
	some, none := 0, 0
	eachBox(10, 3000, func(_ *rand.Rand, b api.MouthBox) {
		want, e := 0, api.ErrNone
		for flow := api.MaxMouthFlow - 1; flow >= 0; flow-- {
			less, more := remaindersOf(b, flow), remaindersOf(b, flow+1)
			for quarter := range less {
				if less[quarter] > more[quarter] {
					want, e = flow, api.OK
				}
			}
		}
		if e == api.OK {
			some++
		} else {
			none++
		}
		if flow, f := mouths.Paradox(b); flow != want || f != e {
			t.Errorf("Paradox(%v) = %d, %d, not %d", b, flow, f, want)
		}
	})
	if some < 500 || none < 500 {
		t.Errorf("not all was tried: %d, %d", some, none)
	}
	for _, x := range []struct {
		b    api.MouthBox
		want int
		e    api.Errno
	}{
		{box(list(5, 3, 1), list(0, 0, 0)), 4, api.OK},
		{wide(17, 20, 20), 38, api.OK},
		{wide(3, 12, 16, 20), 39, api.OK},
		// This one has more of 40 gauges than of 41, but 41 are no flow.
		{wide(7, 18, 19), 0, api.ErrNone},
		{wide(1, 20), 0, api.ErrNone},
		{wide(0, 0, 0), 0, api.ErrNone},
		{api.MouthBox{}, 0, api.ErrNone},
	} {
		if flow, e := mouths.Paradox(x.b); flow != x.want || e != x.e {
			t.Errorf("Paradox(%v) = %d, %d", x.b, flow, e)
		}
	}
	if last, more := remaindersOf(wide(7, 18, 19), 40), remaindersOf(wide(7, 18, 19), 41); last[0] <= more[0] {
		t.Errorf("7 of 44 has %v, and %v of one more", last, more)
	}
}

// firstOther returns the least flow that both ways divide differently, -1 if
// there is none.
func firstOther(b api.MouthBox) int {
	for flow, has := range divisionsOf(b) {
		if !slices.Equal(has, remaindersOf(b, flow)) {
			return flow
		}
	}
	return -1
}

func TestP7_11Differ(t *testing.T) {
	some, none := 0, 0
	eachBox(11, 1000, func(_ *rand.Rand, b api.MouthBox) {
		want := firstOther(b)
		flow, e := mouths.Differ(b)
		if want < 0 {
			none++
			if flow != 0 || e != api.ErrNone {
				t.Errorf("Differ(%v) = %d, %d", b, flow, e)
			}
			return
		}
		some++
		if flow != want || e != api.OK {
			t.Errorf("Differ(%v) = %d, %d, not %d", b, flow, e, want)
		}
	})
	if some < 500 || none < 100 {
		t.Errorf("not all was tried: %d, %d", some, none)
	}
	for _, x := range []struct {
		b    api.MouthBox
		want int
		e    api.Errno
	}{
		{wide(6, 7), 39, api.OK},
		{wide(10, 11), 40, api.OK},
		{wide(1, 1), 0, api.ErrNone},
		{box(list(1, 1), list(20, 19)), 40, api.OK},
		{widest(), 0, api.ErrNone},
		// By remainders nothing overflows.
		{wide(20), 21, api.OK},
		{wide(0, 1), 21, api.OK},
		{box(list(1), list(0)), 1, api.OK},
		// Nobody has any, in both ways.
		{wide(0, 0, 0), 0, api.ErrNone},
		{api.MouthBox{}, 0, api.ErrNone},
	} {
		if flow, e := mouths.Differ(x.b); flow != x.want || e != x.e {
			t.Errorf("Differ(%v) = %d, %d", x.b, flow, e)
		}
	}
}

// worstOf returns the first quarter with a share of which no other one's gauges,
// divided by its share, are less, -1 if there is none.
func worstOf(b api.MouthBox, has []int) int {
	for quarter, share := range b.Shares {
		is := share > 0
		for other, its := range b.Shares {
			if its > 0 && has[other]*share < has[quarter]*its {
				is = false
			}
		}
		if is {
			return quarter
		}
	}
	return -1
}

func TestP7_12Served(t *testing.T) {
	later, none := 0, 0
	eachFlow(12, 600, func(_ *rand.Rand, b api.MouthBox, flow int) {
		want := worstOf(b, divisionOf(b, flow))
		quarter, e := mouths.Served(b, flow)
		if want < 0 {
			none++
			if quarter != 0 || e != api.ErrNone {
				t.Errorf("Served(%v, %d) = %d, %d", b, flow, quarter, e)
			}
			return
		}
		if want > 0 {
			later++
		}
		if quarter != want || e != api.OK {
			t.Errorf("Served(%v, %d) = %d, %d, not %d", b, flow, quarter, e, want)
		}
	})
	if later < 1000 || none < 1000 {
		t.Errorf("not all was tried: %d, %d", later, none)
	}
	for _, x := range []struct {
		b          api.MouthBox
		flow, want int
		e          api.Errno
	}{
		// Of several the first one with a share.
		{wide(5, 3, 1), 0, 0, api.OK},
		{wide(0, 3, 3), 0, 1, api.OK},
		{wide(0, 3, 3), 2, 1, api.OK},
		{wide(0, 3, 3), 1, 2, api.OK},
		{wide(0, 2, 0, 4), 3, 1, api.OK},
		// By what was given out, with the mosts, and not by remainders.
		{box(list(1, 20), list(20, 0)), 0, 0, api.OK},
		{box(list(1, 20), list(20, 0)), 9, 1, api.OK},
		{box(list(5, 3, 1), list(2, 9, 9)), 6, 0, api.OK},
		// One quarter alone is the worst, too.
		{wide(0, 0, 20), 40, 2, api.OK},
		{wide(0, 0), 40, 0, api.ErrNone},
		{api.MouthBox{}, 0, 0, api.ErrNone},
	} {
		if quarter, e := mouths.Served(x.b, x.flow); quarter != x.want || e != x.e {
			t.Errorf("Served(%v, %d) = %d, %d", x.b, x.flow, quarter, e)
		}
	}
}

func TestNilAndEmpty(t *testing.T) {
	boxes := []api.MouthBox{{}, box(list(), nil), box(nil, list()), box(list(), list())}
	for _, a := range []asked{{0, 0, 0, 1, 0}, {0, 5, 40, 20, 39}, {-1, -1, -1, -1, -1}} {
		want, _ := errors(boxes[0], a)
		for _, b := range boxes {
			list, zero := errors(b, a)
			if e := mouths.Check(b); e != api.OK || !slices.Equal(list, want) || !zero {
				t.Errorf("%v: Check = %d, errors %v, zero %v", a, e, list, zero)
			}
		}
	}
	for _, b := range boxes {
		if len(gaugesOf(b, 9)) != 0 || overOf(b, 9) != 9 || len(exactOf(b, 9)) != 0 || len(remaindersBy(b, 9)) != 0 {
			t.Error("a box without quarters gives some")
		}
	}
}

// spoil changes all that a list has room for.
func spoil[T any](list []T, with T) {
	for n := range list[:cap(list)] {
		list[:cap(list)][n] = with
	}
}

func TestMemory(t *testing.T) {
	eachBox(20, 300, func(r *rand.Rand, b api.MouthBox) {
		kept := clone(b)
		// What lies behind the lists is the caller's, too.
		b.Shares = append(b.Shares, 7)[:len(b.Shares)]
		b.Mosts = append(b.Mosts, 7)[:len(b.Mosts)]
		flow := r.Intn(api.MaxMouthFlow + 1)
		for range 2 {
			has, by, exact := gaugesOf(b, flow), remaindersBy(b, flow), exactOf(b, flow)
			between, _ := mouths.Between(b, flow, flow)
			for quarter, gauges := range divisionOf(kept, flow) {
				if has[quarter] != gauges || by[quarter] != remaindersOf(kept, flow)[quarter] || between[quarter] != span(gauges, gauges) || exact[quarter] != exactOf(kept, flow)[quarter] {
					t.Errorf("%v, %d: %v, %v, %v, %v", kept, flow, has, by, exact, between)
				}
			}
			spoil(has, -9)
			spoil(by, -9)
			spoil(exact, ratio(-9, -9))
			spoil(between, span(-9, -9))
			for quarter := range b.Shares {
				errors(b, asked{quarter, flow, api.MaxMouthFlow, 1 + r.Intn(api.MaxMouthMost), r.Intn(api.MaxMouthFlow)})
			}
		}
		behind := b.Shares[:len(b.Shares)+1][len(b.Shares)] + b.Mosts[:len(b.Mosts)+1][len(b.Mosts)]
		if !same(b, kept) || behind != 14 {
			t.Errorf("%v has become %v", kept, b)
		}
	})
}

// isBox reports whether a box is valid.
func isBox(b api.MouthBox) bool {
	for _, n := range slices.Concat(b.Shares, b.Mosts) {
		if n < 0 || n > 20 {
			return false
		}
	}
	return len(b.Shares) <= 5 && len(b.Shares) == len(b.Mosts)
}

func TestP1Mouths(t *testing.T) {
	r := rand.New(rand.NewSource(1))
	good, bad := 0, 0
	for range 20000 {
		b := someBox(r)
		if len(b.Shares) > 0 && r.Intn(4) == 0 {
			b.Shares[r.Intn(len(b.Shares))] = anyNumber(r)
		}
		if len(b.Mosts) > 0 && r.Intn(4) == 0 {
			b.Mosts[r.Intn(len(b.Mosts))] = anyNumber(r)
		}
		if r.Intn(6) == 0 {
			b.Shares = append(b.Shares, anyNumber(r))
		}
		if r.Intn(6) == 0 {
			b.Mosts = append(b.Mosts, anyNumber(r))
		}
		is := isBox(b)
		if is {
			good++
		} else {
			bad++
		}
		list, zero := errors(b, asked{anyNumber(r), anyNumber(r), anyNumber(r), anyNumber(r), anyNumber(r)})
		if e := mouths.Check(b); (e == api.OK) != is || is == areAll(append(list, e), api.ErrMouth) || !zero {
			t.Errorf("%v: Check = %d, errors %v, zero %v", b, e, list, zero)
		}
	}
	if good < 2000 || bad < 2000 {
		t.Errorf("not all was tried: %d, %d", good, bad)
	}
}
