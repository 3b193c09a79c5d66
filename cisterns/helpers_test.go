package cisterns_test

import (
	"math"
	"math/rand"
	"slices"

	"steening/api"
	"steening/cisterns"
)

func list(l ...int) []int { return l }

func span(low, high int) api.Span { return api.Span{Low: low, High: high} }

// day returns a day by between how much rain comes, and what is wanted.
func day(low, high, want int) api.CisternDay {
	return api.CisternDay{Rain: span(low, high), Want: want}
}

func year(size, start int, days ...api.CisternDay) api.CisternYear {
	return api.CisternYear{Size: size, Start: start, Days: days}
}

// yearC, yearD and yearW are the years C, D and W of the chapter's examples.
func yearC() api.CisternYear {
	return year(10, 4, day(2, 5, 4), day(0, 8, 6), day(3, 3, 2), day(0, 1, 5))
}

func yearD() api.CisternYear {
	return year(10, 5, day(0, 2, 1), day(6, 9, 2), day(0, 0, 7), day(4, 4, 3))
}

func yearW() api.CisternYear {
	return year(5, 5, day(1, 3, 0), day(2, 2, 0))
}

// alike returns 8 days that are all alike.
func alike(d api.CisternDay) []api.CisternDay {
	return slices.Repeat([]api.CisternDay{d}, 8)
}

// widest returns the year with the greatest numbers of all.
func widest() api.CisternYear {
	return year(60, 60, alike(day(0, 20, 20))...)
}

// plain returns some years at the ends of what can be.
func plain() []api.CisternYear {
	return []api.CisternYear{
		{},
		year(60, 0),
		year(60, 60),
		year(0, 0, day(0, 0, 0)),
		year(0, 0, alike(day(20, 20, 20))...),
		year(0, 0, day(0, 20, 0), day(0, 20, 1)),
		year(60, 60, day(0, 20, 20)),
		year(60, 60, day(20, 20, 0)),
		year(60, 0, alike(day(20, 20, 0))...),
		year(60, 60, alike(day(0, 0, 20))...),
		year(20, 0, alike(day(20, 20, 20))...),
		year(60, 0, day(0, 20, 0), day(0, 20, 0), day(0, 20, 0), day(0, 20, 20)),
		year(1, 1, day(0, 1, 1), day(0, 1, 1)),
		widest(),
		yearC(),
		yearD(),
		yearW(),
	}
}

// clone returns a year that shares no memory with another one.
func clone(y api.CisternYear) api.CisternYear {
	return year(y.Size, y.Start, slices.Clone(y.Days)...)
}

// same reports whether two years are the same.
func same(a, b api.CisternYear) bool {
	return a.Size == b.Size && a.Start == b.Start && slices.Equal(a.Days, b.Days)
}

// with returns a year in which something is changed.
func with(y api.CisternYear, change func(y *api.CisternYear)) api.CisternYear {
	y = clone(y)
	change(&y)
	return y
}

// withSize returns a year with another Size, withStart with another Start,
// withRation without greater Wants than this one, and withMore with so much more
// that is wanted on a day.
func withSize(y api.CisternYear, size int) api.CisternYear {
	return with(y, func(y *api.CisternYear) { y.Size, y.Start = size, min(y.Start, size) })
}

func withStart(y api.CisternYear, start int) api.CisternYear {
	return with(y, func(y *api.CisternYear) { y.Start = start })
}

func withRation(y api.CisternYear, ration int) api.CisternYear {
	return with(y, func(y *api.CisternYear) {
		for n, d := range y.Days {
			if d.Want > ration {
				y.Days[n].Want = ration
			}
		}
	})
}

func withMore(y api.CisternYear, day, more int) api.CisternYear {
	return with(y, func(y *api.CisternYear) { y.Days[day].Want += more })
}

// state is the level behind a day, what lacked on it, what ran over on it, and
// all that has run over.
type state struct {
	level, lack, over, overs int
}

// step returns what comes of the state behind the day before, drop by drop.
func step(size int, s state, rain, want int) state {
	s.lack, s.over = 0, 0
	for range rain {
		if s.level == size {
			s.over++
			s.overs++
		} else {
			s.level++
		}
	}
	for range want {
		if s.level == 0 {
			s.lack++
		} else {
			s.level--
		}
	}
	return s
}

// runOf returns the states of a weather.
func runOf(y api.CisternYear, weather []int) []state {
	var all []state
	s := state{level: y.Start}
	for n, d := range y.Days {
		s = step(y.Size, s, weather[n], d.Want)
		all = append(all, s)
	}
	return all
}

// statesOf returns, for each day, the states to which weathers lead: all rain
// that can come is tried.
func statesOf(y api.CisternYear) [][]state {
	var all [][]state
	before := []state{{level: y.Start}}
	for _, d := range y.Days {
		var behind []state
		seen := make(map[state]bool)
		for _, s := range before {
			for rain := d.Rain.Low; rain <= d.Rain.High; rain++ {
				next := step(y.Size, s, rain, d.Want)
				if !seen[next] {
					seen[next] = true
					behind = append(behind, next)
				}
			}
		}
		all = append(all, behind)
		before = behind
	}
	return all
}

// lastsOf reports whether nothing lacks on any day in any weather: all levels
// that can be are gone through.
func lastsOf(y api.CisternYear) bool {
	before := map[int]bool{y.Start: true}
	for _, d := range y.Days {
		behind := make(map[int]bool)
		for level := range before {
			for rain := d.Rain.Low; rain <= d.Rain.High; rain++ {
				s := step(y.Size, state{level: level}, rain, d.Want)
				if s.lack > 0 {
					return false
				}
				behind[s.level] = true
			}
		}
		before = behind
	}
	return true
}

// amongOf returns the least and the greatest one of a number of some states.
func amongOf(states []state, number func(s state) int) api.Span {
	among := span(math.MaxInt, math.MinInt)
	for _, s := range states {
		among = span(min(among.Low, number(s)), max(among.High, number(s)))
	}
	return among
}

// levelIn, lackIn and oversIn are numbers of a state.
func levelIn(s state) int { return s.level }

func lackIn(s state) int { return s.lack }

func oversIn(s state) int { return s.overs }

// someWeather returns a random weather, often one with the least, or the most,
// rain of many days.
func someWeather(r *rand.Rand, y api.CisternYear) []int {
	var weather []int
	kind := r.Intn(4)
	for _, d := range y.Days {
		rain := d.Rain.Low + r.Intn(d.Rain.High-d.Rain.Low+1)
		switch {
		case kind == 0 && r.Intn(3) > 0:
			rain = d.Rain.Low
		case kind == 1 && r.Intn(3) > 0:
			rain = d.Rain.High
		}
		weather = append(weather, rain)
	}
	return weather
}

// upTo returns a random number, most often a small one.
func upTo(r *rand.Rand, most int) int {
	return r.Intn(1 + r.Intn(most+1))
}

// someDay returns a random day.
func someDay(r *rand.Rand) api.CisternDay {
	low := upTo(r, api.MaxCisternRain)
	high := min(api.MaxCisternRain, low+upTo(r, 10))
	if r.Intn(4) == 0 {
		high = low
	}
	want := upTo(r, api.MaxCisternWant)
	if r.Intn(3) == 0 {
		want = min(api.MaxCisternWant, low+r.Intn(3))
	}
	return day(low, high, want)
}

// someYear returns a random year.
func someYear(r *rand.Rand) api.CisternYear {
	size := upTo(r, api.MaxCistern)
	if r.Intn(2) == 0 {
		size = 5 + r.Intn(25)
	}
	some := year(size, r.Intn(size+1))
	if r.Intn(3) == 0 {
		some.Start = size
	}
	for range max(r.Intn(api.MaxCisternDays+1), r.Intn(5)) {
		some.Days = append(some.Days, someDay(r))
	}
	return some
}

// eachYear calls a function with many years.
func eachYear(seed int64, many int, call func(r *rand.Rand, y api.CisternYear)) {
	r := rand.New(rand.NewSource(seed))
	for _, y := range plain() {
		call(r, y)
	}
	for range many {
		call(r, someYear(r))
	}
}

// eachDay calls a function with many years, and each of their days.
func eachDay(seed int64, many int, call func(r *rand.Rand, y api.CisternYear, day int)) {
	eachYear(seed, many, func(r *rand.Rand, y api.CisternYear) {
		for day := range y.Days {
			call(r, y, day)
		}
	})
}

// allRun returns what Run does of a valid weather.
func allRun(y api.CisternYear, weather []int) (levels, lacks, overs []int) {
	levels, lacks, overs, _ = cisterns.Run(y, weather)
	return levels, lacks, overs
}

// levelOf, lackOf and overOf return results of a day of a valid year.
func levelOf(y api.CisternYear, day int) api.Span {
	level, _ := cisterns.Level(y, day)
	return level
}

func lackOf(y api.CisternYear, day int) api.Span {
	lack, _ := cisterns.Lack(y, day)
	return lack
}

func overOf(y api.CisternYear, day int) api.Span {
	over, _ := cisterns.Over(y, day)
	return over
}

// dayOf returns a day that Dry or Must names, or a day behind all days if there
// is none.
func dayOf(day int, e api.Errno) int {
	if e != api.OK {
		return api.MaxCisternDays
	}
	return day
}

// sumOf returns the sum of some numbers.
func sumOf(list []int) int {
	sum := 0
	for _, n := range list {
		sum += n
	}
	return sum
}

// sums returns, for each number, the sum of all numbers up to it.
func sums(list []int) []int {
	var all []int
	for n := range list {
		all = append(all, sumOf(list[:n+1]))
	}
	return all
}

// anyNumber returns a random number, often one that is not valid.
func anyNumber(r *rand.Rand) int {
	some := list(math.MinInt, math.MinInt+1, -2, -1, 8, 9, 20, 21, 60, 61, 999, 1000, math.MaxInt-1, math.MaxInt)
	if r.Intn(3) > 0 {
		return r.Intn(8)
	}
	return some[r.Intn(len(some))]
}
