package cisterns_test

import (
	"math"
	"math/rand"
	"slices"
	"testing"

	"steening/api"
	"steening/cisterns"
)

// numbers returns the numbers of a year, none of which can be below 0, and the
// greatest one that each can be.
func numbers() map[string]struct {
	of   func(y *api.CisternYear) *int
	most int
} {
	return map[string]struct {
		of   func(y *api.CisternYear) *int
		most int
	}{
		"size":      {func(y *api.CisternYear) *int { return &y.Size }, 60},
		"start":     {func(y *api.CisternYear) *int { return &y.Start }, 10},
		"low":       {func(y *api.CisternYear) *int { return &y.Days[1].Rain.Low }, 8},
		"low of 0":  {func(y *api.CisternYear) *int { return &y.Days[0].Rain.Low }, 5},
		"high":      {func(y *api.CisternYear) *int { return &y.Days[1].Rain.High }, 20},
		"last high": {func(y *api.CisternYear) *int { return &y.Days[3].Rain.High }, 20},
		"want":      {func(y *api.CisternYear) *int { return &y.Days[0].Want }, 20},
		"last want": {func(y *api.CisternYear) *int { return &y.Days[3].Want }, 20},
	}
}

// invalid returns years that are not valid, each for one reason.
func invalid() map[string]api.CisternYear {
	years := map[string]api.CisternYear{
		"9 days":        year(60, 60, append(alike(day(0, 0, 0)), day(0, 0, 0))...),
		"many days":     year(60, 60, slices.Repeat(alike(day(1, 1, 1)), 100)...),
		"no days, 61":   year(61, 0),
		"no days, -1":   year(-1, 0),
		"no days, less": year(-1, -1),
		"start above":   year(3, 4),
		"start, none":   year(0, 1),
		"rain -1":       year(5, 5, day(-1, -1, 0)),
		"rain 21":       year(5, 5, day(21, 21, 0)),
		"low above":     year(5, 5, day(1, 0, 0)),
	}
	for name, n := range numbers() {
		for what, bad := range map[string]int{"-1": -1, "least": math.MinInt, "more": n.most + 1, "most": math.MaxInt} {
			years[name+" "+what] = with(yearC(), func(y *api.CisternYear) { *n.of(y) = bad })
		}
	}
	for name, change := range map[string]func(y *api.CisternYear){
		"size below start": func(y *api.CisternYear) { y.Size = 3 },
		"high below low":   func(y *api.CisternYear) { y.Days[2].Rain.High = 2 },
		"low, high least":  func(y *api.CisternYear) { y.Days[2].Rain = span(math.MinInt, math.MinInt) },
		"low, high most":   func(y *api.CisternYear) { y.Days[2].Rain = span(math.MaxInt, math.MaxInt) },
		"all ways wide":    func(y *api.CisternYear) { y.Days[2].Rain = span(math.MinInt, math.MaxInt) },
		"all most":         func(y *api.CisternYear) { y.Size, y.Start = math.MaxInt, math.MaxInt },
		"all least":        func(y *api.CisternYear) { y.Size, y.Start = math.MinInt, math.MinInt },
	} {
		years[name] = with(yearC(), change)
	}
	return years
}

// asked is what the functions are asked for.
type asked struct {
	weather     []int
	day, amount int
}

// errors returns what each function but Check returns as an error, and reports
// whether each result beside an error is its zero value.
func errors(y api.CisternYear, a asked) (list []api.Errno, zero bool) {
	zero = true
	add := func(e api.Errno, isZero bool) {
		list = append(list, e)
		zero = zero && (e == api.OK || isZero)
	}
	levels, lacks, overs, e := cisterns.Run(y, a.weather)
	add(e, len(levels)+len(lacks)+len(overs) == 0)
	level, e := cisterns.Level(y, a.day)
	add(e, level == api.Span{})
	lack, e := cisterns.Lack(y, a.day)
	add(e, lack == api.Span{})
	over, e := cisterns.Over(y, a.day)
	add(e, over == api.Span{})
	right, e := cisterns.Right(y, a.amount)
	add(e, right == api.Span{})
	dry, e := cisterns.Dry(y)
	add(e, dry == 0)
	must, e := cisterns.Must(y)
	add(e, must == 0)
	size, e := cisterns.Size(y)
	add(e, size == 0)
	start, e := cisterns.Start(y)
	add(e, start == 0)
	ration, e := cisterns.Ration(y)
	add(e, ration == 0)
	spare, e := cisterns.Spare(y, a.day)
	add(e, spare == 0)
	return list, zero
}

// areAll reports whether all errors are the same one.
func areAll(list []api.Errno, e api.Errno) bool {
	return !slices.ContainsFunc(list, func(other api.Errno) bool { return other != e })
}

func TestP10_1Check(t *testing.T) {
	for n, y := range plain() {
		if e := cisterns.Check(y); e != api.OK {
			t.Errorf("%d: Check = %d", n, e)
		}
	}
	for name, n := range numbers() {
		least := with(yearC(), func(y *api.CisternYear) { *n.of(y) = 0 })
		most := with(yearC(), func(y *api.CisternYear) { *n.of(y) = n.most })
		// A Start must have room.
		if e := cisterns.Check(least); name != "size" && e != api.OK {
			t.Errorf("%s 0: Check = %d", name, e)
		}
		if e := cisterns.Check(most); e != api.OK {
			t.Errorf("%s %d: Check = %d", name, n.most, e)
		}
	}
	for name, y := range invalid() {
		if e := cisterns.Check(y); e != api.ErrCistern {
			t.Errorf("%s: Check = %d", name, e)
		}
		// ErrCistern is named first, whatever else is wrong.
		for _, n := range list(0, 1, -1, 4, 8, 999, 1000, math.MinInt, math.MaxInt) {
			for _, l := range [][]int{nil, list(n), list(2, 0, 3, 0), list(n, n, n, n), slices.Repeat(list(n), 800)} {
				list, zero := errors(y, asked{l, n, n})
				if !areAll(list, api.ErrCistern) || !zero {
					t.Errorf("%s: %d, %v: errors %v, zero %v", name, n, l, list, zero)
				}
			}
		}
	}
}

func TestErrors(t *testing.T) {
	for name, x := range map[string]struct {
		y    api.CisternYear
		a    asked
		want []api.Errno
	}{
		"C":             {yearC(), asked{list(2, 0, 3, 0), 0, 1}, []api.Errno{0, 0, 0, 0, 3, 0, 3, 3, 3, 0, 3}},
		"C, last":       {yearC(), asked{list(5, 8, 3, 1), 3, 999}, []api.Errno{0, 0, 0, 0, 3, 0, 3, 3, 3, 0, 3}},
		"C, behind":     {yearC(), asked{list(5, 8, 3, 2), 4, 1000}, []api.Errno{1, 1, 1, 1, 1, 0, 3, 3, 3, 0, 1}},
		"C, before":     {yearC(), asked{list(1, 0, 3, 0), -1, 0}, []api.Errno{1, 1, 1, 1, 1, 0, 3, 3, 3, 0, 1}},
		"C, the least":  {yearC(), asked{list(2, math.MinInt, 3, 0), math.MinInt, math.MinInt}, []api.Errno{1, 1, 1, 1, 1, 0, 3, 3, 3, 0, 1}},
		"C, the most":   {yearC(), asked{list(2, 0, 3, math.MaxInt), math.MaxInt, math.MaxInt}, []api.Errno{1, 1, 1, 1, 1, 0, 3, 3, 3, 0, 1}},
		"C, below 0":    {yearC(), asked{list(2, -1, 3, 0), 1, -1}, []api.Errno{1, 0, 0, 0, 1, 0, 3, 3, 3, 0, 3}},
		"C, a day less": {yearC(), asked{list(2, 0, 3), 1, 1}, []api.Errno{1, 0, 0, 0, 3, 0, 3, 3, 3, 0, 3}},
		"C, a day more": {yearC(), asked{list(2, 0, 3, 0, 0), 1, 1}, []api.Errno{1, 0, 0, 0, 3, 0, 3, 3, 3, 0, 3}},
		"C, no weather": {yearC(), asked{nil, 1, 1}, []api.Errno{1, 0, 0, 0, 3, 0, 3, 3, 3, 0, 3}},
		"D":             {yearD(), asked{list(2, 6, 0, 4), 2, 2}, []api.Errno{0, 0, 0, 0, 3, 3, 3, 0, 0, 0, 0}},
		"W":             {yearW(), asked{list(3, 2), 1, 3}, []api.Errno{0, 0, 0, 0, 0, 3, 3, 0, 0, 0, 0}},
		"no rain":       {year(3, 3, day(0, 0, 4)), asked{list(0), 0, 1}, []api.Errno{0, 0, 0, 0, 3, 0, 0, 3, 3, 0, 3}},
		"too much":      {year(60, 60, alike(day(0, 0, 8))...), asked{nil, 0, 1}, []api.Errno{1, 0, 0, 0, 3, 0, 0, 3, 3, 0, 3}},
		"no days":       {year(6, 3), asked{nil, 0, 1}, []api.Errno{0, 1, 1, 1, 3, 3, 3, 0, 0, 0, 1}},
		"no days, some": {year(6, 3), asked{list(0), -1, 0}, []api.Errno{1, 1, 1, 1, 1, 3, 3, 0, 0, 0, 1}},
	} {
		if list, zero := errors(x.y, x.a); !slices.Equal(list, x.want) || !zero {
			t.Errorf("%s: errors %v, zero %v", name, list, zero)
		}
	}
}

func TestExamples(t *testing.T) {
	c, d, w := yearC(), yearD(), yearW()
	for _, x := range []struct{ weather, levels, lacks, overs []int }{
		{list(2, 0, 3, 0), list(2, 0, 1, 0), list(0, 4, 0, 4), list(0, 0, 0, 0)},
		{list(5, 8, 3, 1), list(5, 4, 5, 1), list(0, 0, 0, 0), list(0, 3, 0, 0)},
	} {
		levels, lacks, overs, e := cisterns.Run(c, x.weather)
		if !slices.Equal(levels, x.levels) || !slices.Equal(lacks, x.lacks) || !slices.Equal(overs, x.overs) || e != api.OK {
			t.Errorf("Run of %v = %v, %v, %v, %d", x.weather, levels, lacks, overs, e)
		}
	}
	for name, x := range map[string]struct {
		call func(y api.CisternYear, n int) (api.Span, api.Errno)
		y    api.CisternYear
		n    int
		want api.Span
		e    api.Errno
	}{
		"Level of C, 1": {cisterns.Level, c, 1, span(0, 4), api.OK},
		"Level of C, 3": {cisterns.Level, c, 3, span(0, 1), api.OK},
		"Lack of C, 1":  {cisterns.Lack, c, 1, span(0, 4), api.OK},
		"Over of C, 3":  {cisterns.Over, c, 3, span(0, 3), api.OK},
		"Over of W, 0":  {cisterns.Over, w, 0, span(1, 3), api.OK},
		"Over of W, 1":  {cisterns.Over, w, 1, span(3, 5), api.OK},
		"Right of W, 3": {cisterns.Right, w, 3, span(0, 1), api.OK},
		"Right of W, 4": {cisterns.Right, w, 4, span(0, 0), api.ErrNone},
	} {
		if s, e := x.call(x.y, x.n); s != x.want || e != x.e {
			t.Errorf("%s = %v, %d", name, s, e)
		}
	}
	for name, x := range map[string]struct {
		call func(y api.CisternYear) (int, api.Errno)
		y    api.CisternYear
		want int
		e    api.Errno
	}{
		"Dry of C":    {cisterns.Dry, c, 1, api.OK},
		"Must of C":   {cisterns.Must, c, 0, api.ErrNone},
		"Size of C":   {cisterns.Size, c, 0, api.ErrNone},
		"Start of C":  {cisterns.Start, c, 0, api.ErrNone},
		"Ration of C": {cisterns.Ration, c, 2, api.OK},
		"Size of D":   {cisterns.Size, d, 9, api.OK},
		"Start of D":  {cisterns.Start, d, 4, api.OK},
		"Ration of D": {cisterns.Ration, d, 20, api.OK},
	} {
		if n, e := x.call(x.y); n != x.want || e != x.e {
			t.Errorf("%s = %d, %d", name, n, e)
		}
	}
	if n, e := cisterns.Spare(c, 0); n != 0 || e != api.ErrNone {
		t.Errorf("Spare of C = %d, %d", n, e)
	}
	for day, want := range map[int]int{0: 1, 2: 1, 3: 2} {
		if n, e := cisterns.Spare(d, day); n != want || e != api.OK {
			t.Errorf("Spare of D, %d = %d, %d", day, n, e)
		}
	}
}

func TestP10_2Run(t *testing.T) {
	over, lack := 0, 0
	eachYear(2, 1000, func(r *rand.Rand, y api.CisternYear) {
		for range 10 {
			weather := someWeather(r, y)
			levels, lacks, overs, e := cisterns.Run(y, weather)
			if len(levels) != len(y.Days) || len(lacks) != len(y.Days) || len(overs) != len(y.Days) || e != api.OK {
				t.Fatalf("Run(%v, %v) = %v, %v, %v, %d", y, weather, levels, lacks, overs, e)
			}
			for n, s := range runOf(y, weather) {
				if levels[n] != s.level || lacks[n] != s.lack || overs[n] != s.over {
					t.Errorf("Run(%v, %v) = %v, %v, %v, but %v on %d", y, weather, levels, lacks, overs, s, n)
				}
				over, lack = over+s.over, lack+s.lack
			}
			if len(weather) == 0 {
				continue
			}
			wrong, n := slices.Clone(weather), r.Intn(len(weather))
			wrong[n] = anyNumber(r)
			rain := y.Days[n].Rain
			want := api.OK
			if wrong[n] < rain.Low || wrong[n] > rain.High {
				want = api.ErrArg
			}
			if _, _, _, e := cisterns.Run(y, wrong); e != want {
				t.Errorf("Run(%v, %v): %d", y, wrong, e)
			}
		}
	})
	if over < 1000 || lack < 1000 {
		t.Errorf("not all was tried: %d, %d", over, lack)
	}
	for _, x := range []struct {
		y                             api.CisternYear
		weather, levels, lacks, overs []int
	}{
		// First the rain comes, and runs over, and then it is drawn.
		{year(5, 5, day(5, 5, 5)), list(5), list(0), list(0), list(5)},
		{year(5, 4, day(3, 3, 7), day(4, 4, 0)), list(3, 4), list(0, 4), list(2, 0), list(2, 0)},
		// What lacks on a day is not wanted on the next one.
		{year(9, 0, day(1, 1, 6), day(6, 6, 2)), list(1, 6), list(0, 4), list(5, 0), list(0, 0)},
		// What is just enough neither lacks nor runs over.
		{year(6, 2, day(0, 9, 6), day(0, 9, 0)), list(4, 6), list(0, 6), list(0, 0), list(0, 0)},
		{year(0, 0, day(0, 20, 20)), list(20), list(0), list(20), list(20)},
		{year(60, 60, alike(day(20, 20, 0))...), slices.Repeat(list(20), 8), slices.Repeat(list(60), 8), slices.Repeat(list(0), 8), slices.Repeat(list(20), 8)},
		{year(60, 60, alike(day(0, 0, 20))...), make([]int, 8), list(40, 20, 0, 0, 0, 0, 0, 0), list(0, 0, 0, 20, 20, 20, 20, 20), make([]int, 8)},
	} {
		levels, lacks, overs, e := cisterns.Run(x.y, x.weather)
		if !slices.Equal(levels, x.levels) || !slices.Equal(lacks, x.lacks) || !slices.Equal(overs, x.overs) || e != api.OK {
			t.Errorf("Run(%v, %v) = %v, %v, %v, %d", x.y, x.weather, levels, lacks, overs, e)
		}
	}
}

func TestP10_3LevelP10_4LackP10_5Over(t *testing.T) {
	wide := make(map[string]int)
	eachYear(3, 1000, func(_ *rand.Rand, y api.CisternYear) {
		for n, states := range statesOf(y) {
			for name, x := range map[string]struct {
				call   func(y api.CisternYear, day int) (api.Span, api.Errno)
				number func(s state) int
			}{"Level": {cisterns.Level, levelIn}, "Lack": {cisterns.Lack, lackIn}, "Over": {cisterns.Over, oversIn}} {
				want := amongOf(states, x.number)
				if s, e := x.call(y, n); s != want || e != api.OK {
					t.Errorf("%s(%v, %d) = %v, %d, not %v", name, y, n, s, e, want)
				}
				if want.Low > 0 && want.Low < want.High {
					wide[name]++
				}
			}
		}
	})
	if wide["Level"] < 100 || wide["Lack"] < 100 || wide["Over"] < 100 {
		t.Errorf("not all was tried: %v", wide)
	}
	for _, x := range []struct {
		y                 api.CisternYear
		day               int
		level, lack, over api.Span
	}{
		{year(10, 3, day(1, 4, 6)), 0, span(0, 1), span(0, 2), span(0, 0)},
		{year(10, 8, day(1, 4, 6)), 0, span(3, 4), span(0, 0), span(0, 2)},
		// What has run over is that of all days, what lacks that of this one.
		{year(10, 10, day(1, 4, 10), day(0, 0, 3)), 1, span(0, 0), span(3, 3), span(1, 4)},
		{year(10, 10, day(1, 4, 12), day(12, 15, 0)), 1, span(10, 10), span(0, 0), span(3, 9)},
		{year(10, 10, day(1, 4, 12), day(12, 15, 0)), 0, span(0, 0), span(2, 2), span(1, 4)},
		// In one weather it lacks on the one day, in another one on the other.
		{year(9, 2, day(0, 5, 2), day(0, 3, 4)), 1, span(0, 4), span(0, 4), span(0, 0)},
		{widest(), 7, span(0, 40), span(0, 20), span(0, 20)},
		{widest(), 0, span(40, 40), span(0, 0), span(0, 20)},
	} {
		if level, lack, over := levelOf(x.y, x.day), lackOf(x.y, x.day), overOf(x.y, x.day); level != x.level || lack != x.lack || over != x.over {
			t.Errorf("%v, %d: Level = %v, Lack = %v, Over = %v", x.y, x.day, level, lack, over)
		}
	}
}

// rightOf returns the first day with which so much has run over in some weather,
// and in each one, if there is such a day.
func rightOf(all [][]state, amount int) (between api.Span, is bool) {
	low := slices.IndexFunc(all, func(states []state) bool { return amongOf(states, oversIn).High >= amount })
	high := slices.IndexFunc(all, func(states []state) bool { return amongOf(states, oversIn).Low >= amount })
	return span(low, high), high >= 0
}

func TestP10_6Right(t *testing.T) {
	wide, narrow, none, perhaps := 0, 0, 0, 0
	eachYear(6, 300, func(r *rand.Rand, y api.CisternYear) {
		all := statesOf(y)
		for _, amount := range list(1, 2, 1+r.Intn(10), 1+r.Intn(30), 1+r.Intn(160), 999) {
			want, is := rightOf(all, amount)
			s, e := cisterns.Right(y, amount)
			if is && (s != want || e != api.OK) || !is && (s != span(0, 0) || e != api.ErrNone) {
				t.Errorf("Right(%v, %d) = %v, %d, not %v, %v", y, amount, s, e, want, is)
			}
			switch {
			case is && want.Low < want.High:
				wide++
			case is:
				narrow++
			case want.Low >= 0:
				perhaps++
			default:
				none++
			}
		}
	})
	if wide < 50 || narrow < 50 || none < 50 || perhaps < 50 {
		t.Errorf("not all was tried: %d, %d, %d, %d", wide, narrow, none, perhaps)
	}
	full := year(60, 60, alike(day(20, 20, 0))...)
	for _, x := range []struct {
		y      api.CisternYear
		amount int
		want   api.Span
		e      api.Errno
	}{
		{yearW(), 1, span(0, 0), api.OK},
		{yearW(), 2, span(0, 1), api.OK},
		{full, 1, span(0, 0), api.OK},
		{full, 20, span(0, 0), api.OK},
		{full, 21, span(1, 1), api.OK},
		{full, 160, span(7, 7), api.OK},
		{full, 161, span(0, 0), api.ErrNone},
		{full, 999, span(0, 0), api.ErrNone},
		{full, 0, span(0, 0), api.ErrArg},
		{full, -1, span(0, 0), api.ErrArg},
		{full, 1000, span(0, 0), api.ErrArg},
		{full, math.MinInt, span(0, 0), api.ErrArg},
		{full, math.MaxInt, span(0, 0), api.ErrArg},
		{year(0, 0, day(0, 3, 0), day(0, 0, 0), day(2, 2, 0), day(1, 1, 0)), 3, span(0, 3), api.OK},
	} {
		if s, e := cisterns.Right(x.y, x.amount); s != x.want || e != x.e {
			t.Errorf("Right(%v, %d) = %v, %d", x.y, x.amount, s, e)
		}
	}
}

func TestP10_7DryP10_8Must(t *testing.T) {
	later, dry, never := 0, 0, 0
	eachYear(7, 2000, func(_ *rand.Rand, y api.CisternYear) {
		all := statesOf(y)
		some := slices.IndexFunc(all, func(states []state) bool { return amongOf(states, lackIn).High > 0 })
		each := slices.IndexFunc(all, func(states []state) bool { return amongOf(states, lackIn).Low > 0 })
		for name, x := range map[string]struct {
			call func(y api.CisternYear) (int, api.Errno)
			want int
		}{"Dry": {cisterns.Dry, some}, "Must": {cisterns.Must, each}} {
			n, e := x.call(y)
			if x.want >= 0 && (n != x.want || e != api.OK) || x.want < 0 && (n != 0 || e != api.ErrNone) {
				t.Errorf("%s(%v) = %d, %d, not %d", name, y, n, e, x.want)
			}
		}
		switch {
		case some < 0:
			never++
		case each < 0:
			dry++
		case some < each:
			later++
		}
	})
	if later < 20 || dry < 50 || never < 50 {
		t.Errorf("not all was tried: %d, %d, %d", later, dry, never)
	}
	for _, x := range []struct {
		y         api.CisternYear
		dry, must int // 8: there is none
	}{
		{year(60, 60, alike(day(0, 0, 20))...), 3, 3},
		{widest(), 3, 8},
		{year(0, 0, day(0, 0, 1)), 0, 0},
		{year(5, 0, day(1, 3, 3), day(2, 4, 5)), 0, 1},
		{year(5, 0, day(1, 3, 2), day(2, 4, 6)), 0, 1},
		// In each weather something lacks, but not on one day.
		{year(5, 5, day(0, 5, 9), day(0, 0, 1)), 0, 0},
		{year(9, 0, day(0, 1, 1), day(1, 1, 1)), 0, 8},
		{year(4, 4, alike(day(4, 4, 4))...), 8, 8},
		{api.CisternYear{}, 8, 8},
	} {
		if dry, must := dayOf(cisterns.Dry(x.y)), dayOf(cisterns.Must(x.y)); dry != x.dry || must != x.must {
			t.Errorf("%v: Dry = %d, Must = %d", x.y, dry, must)
		}
	}
}

// leastOf returns the least number up to another one with which a year lasts, if
// there is one: all are tried.
func leastOf(high int, with func(n int) api.CisternYear) (least int, is bool) {
	for n := high; n >= 0; n-- {
		if lastsOf(with(n)) {
			least, is = n, true
		}
	}
	return least, is
}

// mostOf returns the greatest such number.
func mostOf(high int, with func(n int) api.CisternYear) (most int, is bool) {
	for n := range high + 1 {
		if lastsOf(with(n)) {
			most, is = n, true
		}
	}
	return most, is
}

// isNot reports whether a number and an error are not the ones that are wanted.
func isNot(n int, e api.Errno, want int, is bool) bool {
	if is {
		return n != want || e != api.OK
	}
	return n != 0 || e != api.ErrNone
}

func TestP10_9Size(t *testing.T) {
	less, more, none := 0, 0, 0
	eachYear(9, 400, func(_ *rand.Rand, y api.CisternYear) {
		want, is := leastOf(api.MaxCistern, func(n int) api.CisternYear { return withSize(y, n) })
		if n, e := cisterns.Size(y); isNot(n, e, want, is) {
			t.Errorf("Size(%v) = %d, %d, not %d, %v", y, n, e, want, is)
		}
		switch {
		case !is:
			none++
		case want < y.Start:
			less++
		case want > y.Size:
			more++
		}
	})
	if less < 20 || more < 5 || none < 50 {
		t.Errorf("not all was tried: %d, %d, %d", less, more, none)
	}
	for _, x := range []struct {
		y    api.CisternYear
		want int
		e    api.Errno
	}{
		{api.CisternYear{}, 0, api.OK},
		{year(60, 60), 0, api.OK},
		{year(0, 0, alike(day(20, 20, 20))...), 20, api.OK},
		{year(10, 10, day(0, 0, 4), day(0, 3, 3)), 7, api.OK},
		// The Start is that of the year, also if Size could be greater.
		{year(10, 6, day(0, 0, 4), day(0, 3, 3)), 0, api.ErrNone},
		{year(3, 3, day(20, 20, 0), day(20, 20, 0), day(17, 17, 0), day(0, 0, 20), day(0, 0, 20), day(0, 0, 20)), 60, api.OK},
		{year(3, 2, day(20, 20, 0), day(20, 20, 0), day(17, 17, 0), day(0, 0, 20), day(0, 0, 20), day(0, 0, 20)), 0, api.ErrNone},
		{year(60, 60, day(20, 20, 1), day(0, 0, 20), day(0, 0, 20), day(0, 0, 20)), 0, api.ErrNone},
	} {
		if n, e := cisterns.Size(x.y); n != x.want || e != x.e {
			t.Errorf("Size(%v) = %d, %d", x.y, n, e)
		}
	}
}

func TestP10_10Start(t *testing.T) {
	less, more, none := 0, 0, 0
	eachYear(10, 1000, func(_ *rand.Rand, y api.CisternYear) {
		want, is := leastOf(y.Size, func(n int) api.CisternYear { return withStart(y, n) })
		if n, e := cisterns.Start(y); isNot(n, e, want, is) {
			t.Errorf("Start(%v) = %d, %d, not %d, %v", y, n, e, want, is)
		}
		switch {
		case !is:
			none++
		case want < y.Start && want > 0:
			less++
		case want > y.Start:
			more++
		}
	})
	if less < 20 || more < 20 || none < 50 {
		t.Errorf("not all was tried: %d, %d, %d", less, more, none)
	}
	for _, x := range []struct {
		y    api.CisternYear
		want int
		e    api.Errno
	}{
		{api.CisternYear{}, 0, api.OK},
		{year(60, 60), 0, api.OK},
		{year(60, 0, day(0, 0, 20), day(0, 20, 20), day(0, 0, 20)), 60, api.OK},
		{year(59, 0, day(0, 0, 20), day(0, 20, 20), day(0, 0, 20)), 0, api.ErrNone},
		{year(5, 5, day(0, 9, 5)), 5, api.OK},
		{year(5, 5, day(0, 9, 6)), 0, api.ErrNone},
		{year(5, 5, day(3, 9, 5)), 2, api.OK},
	} {
		if n, e := cisterns.Start(x.y); n != x.want || e != x.e {
			t.Errorf("Start(%v) = %d, %d", x.y, n, e)
		}
	}
}

func TestP10_11Ration(t *testing.T) {
	all, less, nothing := 0, 0, 0
	eachYear(11, 400, func(_ *rand.Rand, y api.CisternYear) {
		want, is := mostOf(api.MaxCisternWant, func(n int) api.CisternYear { return withRation(y, n) })
		if n, e := cisterns.Ration(y); isNot(n, e, want, is) || !is {
			t.Errorf("Ration(%v) = %d, %d, not %d", y, n, e, want)
		}
		switch want {
		case api.MaxCisternWant:
			all++
		case 0:
			nothing++
		default:
			less++
		}
	})
	if all < 50 || less < 50 || nothing < 5 {
		t.Errorf("not all was tried: %d, %d, %d", all, less, nothing)
	}
	for _, x := range []struct {
		y    api.CisternYear
		want int
	}{
		{api.CisternYear{}, 20},
		{year(0, 0, day(20, 20, 20)), 0},
		{year(19, 0, day(20, 20, 20)), 19},
		{year(20, 0, day(20, 20, 20)), 20},
		{year(60, 0, day(0, 20, 1)), 0},
		// Wants that are less stay as they are.
		{year(60, 9, day(0, 0, 9), day(0, 0, 1), day(0, 0, 9)), 4},
		{widest(), 7},
	} {
		if n, e := cisterns.Ration(x.y); n != x.want || e != api.OK {
			t.Errorf("Ration(%v) = %d, %d", x.y, n, e)
		}
	}
}

func TestP10_12Spare(t *testing.T) {
	some, nothing, none := 0, 0, 0
	eachDay(12, 400, func(_ *rand.Rand, y api.CisternYear, day int) {
		// A day's Want cannot be greater than what there can be.
		want, is := mostOf(y.Size+1, func(n int) api.CisternYear { return withMore(y, day, n) })
		if n, e := cisterns.Spare(y, day); isNot(n, e, want, is) {
			t.Errorf("Spare(%v, %d) = %d, %d, not %d, %v", y, day, n, e, want, is)
		}
		switch {
		case !is:
			none++
		case want > 0:
			some++
		default:
			nothing++
		}
	})
	if some < 50 || nothing < 20 || none < 50 {
		t.Errorf("not all was tried: %d, %d, %d", some, nothing, none)
	}
	for _, x := range []struct {
		y    api.CisternYear
		day  int
		want int
		e    api.Errno
	}{
		// More than MaxCisternWant can be spared.
		{year(60, 60, day(0, 9, 0)), 0, 60, api.OK},
		{year(60, 60, day(20, 20, 20)), 0, 40, api.OK},
		{year(60, 60, day(0, 0, 1), day(20, 20, 20)), 0, 59, api.OK},
		{year(60, 60, day(0, 0, 1), day(0, 0, 20)), 0, 39, api.OK},
		// What runs over can be drawn before.
		{year(10, 10, day(0, 0, 2), day(6, 6, 0), day(0, 0, 9)), 0, 5, api.OK},
		{year(0, 0, day(20, 20, 0)), 0, 0, api.OK},
		{year(10, 10, day(0, 0, 10)), 0, 0, api.OK},
		{year(10, 10, day(0, 0, 1), day(0, 0, 10)), 0, 0, api.ErrNone},
		{year(10, 10, day(0, 0, 1), day(0, 0, 10)), 1, 0, api.ErrNone},
		{year(10, 10, day(0, 0, 1)), 1, 0, api.ErrArg},
		{year(10, 10, day(0, 0, 1), day(0, 0, 10)), 2, 0, api.ErrArg},
	} {
		if n, e := cisterns.Spare(x.y, x.day); n != x.want || e != x.e {
			t.Errorf("Spare(%v, %d) = %d, %d", x.y, x.day, n, e)
		}
	}
}

func TestNilAndEmpty(t *testing.T) {
	none, empty := year(6, 3), year(6, 3)
	empty.Days = []api.CisternDay{}
	for _, a := range []asked{{nil, 0, 1}, {list(), 0, 1}, {list(), -1, 0}} {
		want, _ := errors(none, asked{nil, a.day, a.amount})
		for _, y := range []api.CisternYear{none, empty} {
			list, zero := errors(y, a)
			if e := cisterns.Check(y); e != api.OK || !slices.Equal(list, want) || !zero {
				t.Errorf("%v: Check = %d, errors %v, zero %v", a, e, list, zero)
			}
			levels, lacks, overs, e := cisterns.Run(y, a.weather)
			if len(levels)+len(lacks)+len(overs) > 0 || e != api.OK {
				t.Errorf("Run = %v, %v, %v, %d", levels, lacks, overs, e)
			}
		}
	}
}

// spoil changes all that a list has room for.
func spoil(list []int) {
	for n := range list[:cap(list)] {
		list[:cap(list)][n] = -9
	}
}

// spare returns a list that has room for one element more, which is there.
func spare[T any](list []T, last T) []T {
	return append(slices.Clone(list), last)[:len(list)]
}

func TestMemory(t *testing.T) {
	eachYear(20, 300, func(r *rand.Rand, y api.CisternYear) {
		kept, weather := clone(y), someWeather(r, y)
		keptWeather := slices.Clone(weather)
		// What lies behind the lists is the caller's, too.
		y.Days, weather = spare(y.Days, day(1, 2, 3)), spare(weather, 77)
		for range 2 {
			levels, lacks, overs := allRun(y, weather)
			for n, s := range runOf(kept, keptWeather) {
				if levels[n] != s.level || lacks[n] != s.lack || overs[n] != s.over {
					t.Errorf("Run(%v, %v) = %v, %v, %v", kept, keptWeather, levels, lacks, overs)
				}
			}
			spoil(levels)
			if slices.Contains(lacks, -9) || slices.Contains(overs, -9) {
				t.Errorf("Run(%v, %v): the results share memory", kept, keptWeather)
			}
			spoil(lacks)
			if slices.Contains(overs, -9) {
				t.Errorf("Run(%v, %v): the results share memory", kept, keptWeather)
			}
			spoil(overs)
			for n := range y.Days {
				errors(y, asked{weather, n, 1 + r.Intn(30)})
			}
		}
		days, rains := y.Days[:len(kept.Days)+1], weather[:len(keptWeather)+1]
		if !same(y, kept) || !slices.Equal(weather, keptWeather) || days[len(kept.Days)] != day(1, 2, 3) || rains[len(keptWeather)] != 77 {
			t.Errorf("%v, %v have become %v, %v", kept, keptWeather, y, weather)
		}
	})
}

// spoiled returns a year in which something is any number.
func spoiled(r *rand.Rand, y api.CisternYear) api.CisternYear {
	some := []*int{&y.Size, &y.Start}
	for n := range y.Days {
		d := &y.Days[n]
		some = append(some, &d.Rain.Low, &d.Rain.High, &d.Want)
	}
	*some[r.Intn(len(some))] = anyNumber(r)
	if r.Intn(20) == 0 {
		y.Days = append(y.Days, day(anyNumber(r), anyNumber(r), anyNumber(r)))
	}
	return y
}

// isYear reports whether a year is as the chapter says.
func isYear(y api.CisternYear) bool {
	is := y.Size >= 0 && y.Size <= 60 && y.Start >= 0 && y.Start <= y.Size && len(y.Days) <= 8
	for _, d := range y.Days {
		is = is && d.Rain.Low >= 0 && d.Rain.Low <= d.Rain.High && d.Rain.High <= 20 && d.Want >= 0 && d.Want <= 20
	}
	return is
}

func TestP1Cisterns(t *testing.T) {
	r := rand.New(rand.NewSource(1))
	good, bad := 0, 0
	for range 20000 {
		y := spoiled(r, someYear(r))
		is := isYear(y)
		if is {
			good++
		} else {
			bad++
		}
		var weather []int
		for range r.Intn(api.MaxCisternDays + 2) {
			weather = append(weather, anyNumber(r))
		}
		list, zero := errors(y, asked{weather, anyNumber(r), anyNumber(r)})
		if e := cisterns.Check(y); (e == api.OK) != is || is == areAll(append(list, e), api.ErrCistern) || !zero {
			t.Errorf("%v: Check = %d, errors %v, zero %v", y, e, list, zero)
		}
	}
	if good < 2000 || bad < 2000 {
		t.Errorf("not all was tried: %d, %d", good, bad)
	}
}
