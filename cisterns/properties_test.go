package cisterns_test

import (
	"math/rand"
	"slices"
	"testing"

	"steening/api"
	"steening/cisterns"
)

// isIn reports whether a number is within a span.
func isIn(n int, s api.Span) bool {
	return n >= s.Low && n <= s.High
}

// isNarrower reports whether a span is within another one.
func isNarrower(a, b api.Span) bool {
	return isIn(a.Low, b) && isIn(a.High, b)
}

// noneBelow reports whether no number of a list is less than that of another one.
func noneBelow(a, b []int) bool {
	for n := range a {
		if a[n] < b[n] {
			return false
		}
	}
	return len(a) == len(b)
}

func TestP10_13EachWeather(t *testing.T) {
	dry, must := 0, 0
	eachYear(13, 2000, func(r *rand.Rand, y api.CisternYear) {
		first, surely := dayOf(cisterns.Dry(y)), dayOf(cisterns.Must(y))
		if first < len(y.Days) {
			dry++
		}
		if surely < len(y.Days) {
			must++
		}
		for range 20 {
			weather := someWeather(r, y)
			levels, lacks, overs := allRun(y, weather)
			overs = sums(overs)
			for n := range y.Days {
				if !isIn(levels[n], levelOf(y, n)) || !isIn(lacks[n], lackOf(y, n)) || !isIn(overs[n], overOf(y, n)) {
					t.Errorf("%v, %v: on %d Level = %v, Lack = %v, Over = %v, but %d, %d, %d", y, weather, n, levelOf(y, n), lackOf(y, n), overOf(y, n), levels[n], lacks[n], overs[n])
				}
				if lacks[n] > 0 && n < first || lacks[n] == 0 && n == surely {
					t.Errorf("%v, %v: Dry = %d, Must = %d, but on %d %d lacks", y, weather, first, surely, n, lacks[n])
				}
			}
		}
	})
	if dry < 500 || must < 200 {
		t.Errorf("not all was tried: %d, %d", dry, must)
	}
}

func TestP10_14MoreRain(t *testing.T) {
	level, lack, over := 0, 0, 0
	eachYear(14, 2000, func(r *rand.Rand, y api.CisternYear) {
		for range 5 {
			less := someWeather(r, y)
			more := slices.Clone(less)
			for n, d := range y.Days {
				if r.Intn(2) == 0 {
					more[n] += r.Intn(d.Rain.High - more[n] + 1)
				}
			}
			levels, lacks, overs := allRun(y, less)
			after, still, overAfter := allRun(y, more)
			overs, overAfter = sums(overs), sums(overAfter)
			if !noneBelow(after, levels) || !noneBelow(lacks, still) || !noneBelow(overAfter, overs) {
				t.Errorf("%v: %v, %v, %v of %v, but %v, %v, %v of %v", y, levels, lacks, overs, less, after, still, overAfter, more)
			}
			level += sumOf(after) - sumOf(levels)
			lack += sumOf(lacks) - sumOf(still)
			over += sumOf(overAfter) - sumOf(overs)
		}
	})
	if level < 1000 || lack < 1000 || over < 1000 {
		t.Errorf("not all was tried: %d, %d, %d", level, lack, over)
	}
}

func TestP10_15NothingIsLost(t *testing.T) {
	over, lack := 0, 0
	eachYear(15, 2000, func(r *rand.Rand, y api.CisternYear) {
		weather := someWeather(r, y)
		levels, lacks, overs := allRun(y, weather)
		come, gone := y.Start, 0
		for n, d := range y.Days {
			come += weather[n]
			gone += d.Want - lacks[n] + overs[n]
			if come != levels[n]+gone {
				t.Errorf("%v, %v: up to %d %d came, %d went, %d are there", y, weather, n, come, gone, levels[n])
			}
			over, lack = over+overs[n], lack+lacks[n]
		}
	})
	if over < 1000 || lack < 1000 {
		t.Errorf("not all was tried: %d, %d", over, lack)
	}
}

func TestP10_16AGreaterCistern(t *testing.T) {
	level, lack, over, gains := 0, 0, 0, 0
	eachYear(16, 2000, func(r *rand.Rand, y api.CisternYear) {
		greater := with(y, func(y *api.CisternYear) { y.Size += r.Intn(api.MaxCistern - y.Size + 1) })
		for range 5 {
			weather := someWeather(r, y)
			levels, lacks, overs := allRun(y, weather)
			after, still, overAfter := allRun(greater, weather)
			if !noneBelow(after, levels) || !noneBelow(lacks, still) || sumOf(overAfter) > sumOf(overs) {
				t.Errorf("%v of %v: %v, %v, %v, but with the Size %d %v, %v, %v", weather, y, levels, lacks, overs, greater.Size, after, still, overAfter)
			}
			level += sumOf(after) - sumOf(levels)
			lack += sumOf(lacks) - sumOf(still)
			over += sumOf(overs) - sumOf(overAfter)
		}
		before, after := dayOf(cisterns.Dry(y)), dayOf(cisterns.Dry(greater))
		ration, _ := cisterns.Ration(y)
		other, _ := cisterns.Ration(greater)
		if after < before || other < ration {
			t.Errorf("%v: Dry = %d, Ration = %d, but with the Size %d %d, %d", y, before, ration, greater.Size, after, other)
		}
		gains += after - before + other - ration
		for n := range y.Days {
			spare, e := cisterns.Spare(y, n)
			other, f := cisterns.Spare(greater, n)
			if e == api.OK && (f != api.OK || other < spare) {
				t.Errorf("%v: Spare of %d = %d, but with the Size %d %d, %d", y, n, spare, greater.Size, other, f)
			}
			gains += other - spare
		}
	})
	if level < 1000 || lack < 1000 || over < 1000 || gains < 1000 {
		t.Errorf("not all was tried: %d, %d, %d, %d", level, lack, over, gains)
	}
}

// lasts reports whether a year lasts, by Dry.
func lasts(y api.CisternYear) bool {
	_, e := cisterns.Dry(y)
	return e == api.ErrNone
}

// lastsFrom fails unless a year lasts just from a number on, or with none if
// there is none.
func lastsFrom(t *testing.T, least int, e api.Errno, most int, with func(n int) api.CisternYear) {
	t.Helper()
	for n := range most + 1 {
		if y := with(n); cisterns.Check(y) != api.OK || lasts(y) != (e == api.OK && n >= least) {
			t.Errorf("%v: lasts %v, but %d is the least one, %d", y, lasts(y), least, e)
		}
	}
}

func TestP10_17JustEnough(t *testing.T) {
	sizes, starts := 0, 0
	eachYear(17, 1000, func(_ *rand.Rand, y api.CisternYear) {
		size, e := cisterns.Size(y)
		lastsFrom(t, size, e, api.MaxCistern, func(n int) api.CisternYear { return withSize(y, n) })
		start, f := cisterns.Start(y)
		lastsFrom(t, start, f, y.Size, func(n int) api.CisternYear { return withStart(y, n) })
		if size > 0 {
			sizes++
		}
		if start > 0 {
			starts++
		}
	})
	if sizes < 200 || starts < 200 {
		t.Errorf("not all was tried: %d, %d", sizes, starts)
	}
}

func TestP10_18Rations(t *testing.T) {
	less := 0
	eachYear(18, 2000, func(_ *rand.Rand, y api.CisternYear) {
		ration, e := cisterns.Ration(y)
		if !lasts(withRation(y, ration)) || e != api.OK {
			t.Errorf("%v: Ration = %d, %d, with which it does not last", y, ration, e)
		}
		if ration < api.MaxCisternWant {
			less++
			if lasts(withRation(y, ration+1)) {
				t.Errorf("%v: Ration = %d, but it lasts with one more", y, ration)
			}
		}
		if (ration == api.MaxCisternWant) != lasts(y) {
			t.Errorf("%v: Ration = %d, but it lasts: %v", y, ration, lasts(y))
		}
	})
	if less < 500 {
		t.Errorf("only %d years that do not last were tried", less)
	}
}

func TestP10_19WhatCanBeSpared(t *testing.T) {
	more, less, last := 0, 0, 0
	eachDay(19, 2000, func(_ *rand.Rand, y api.CisternYear, day int) {
		spare, e := cisterns.Spare(y, day)
		if (e == api.OK) != lasts(y) {
			t.Errorf("%v: Spare of %d = %d, %d, but it lasts: %v", y, day, spare, e, lasts(y))
		}
		if e != api.OK {
			return
		}
		// A Want that is greater than can be is none of a valid year.
		if with := withMore(y, day, spare); !lastsOf(with) || cisterns.Check(with) == api.OK && !lasts(with) {
			t.Errorf("%v: Spare of %d = %d, with which it does not last", y, day, spare)
		}
		if with := withMore(y, day, spare+1); lastsOf(with) || cisterns.Check(with) == api.OK && lasts(with) {
			t.Errorf("%v: Spare of %d = %d, but it lasts with one more", y, day, spare)
		}
		level := levelOf(y, day).Low
		if spare > level || day == len(y.Days)-1 && spare != level {
			t.Errorf("%v: Spare of %d = %d, Level = %v", y, day, spare, levelOf(y, day))
		}
		switch {
		case y.Days[day].Want+spare > api.MaxCisternWant:
			more++
		case spare < level:
			less++
		case day == len(y.Days)-1 && spare > 0:
			last++
		}
	})
	if more < 100 || less < 100 || last < 100 {
		t.Errorf("not all was tried: %d, %d, %d", more, less, last)
	}
}

func TestP10_20LessDoubt(t *testing.T) {
	narrower, later, earlier := 0, 0, 0
	eachDay(20, 2000, func(r *rand.Rand, y api.CisternYear, day int) {
		rain := y.Days[day].Rain
		low := rain.Low + r.Intn(rain.High-rain.Low+1)
		rain = span(low, low+r.Intn(rain.High-low+1))
		other := with(y, func(y *api.CisternYear) { y.Days[day].Rain = rain })
		for n := range y.Days {
			if !isNarrower(levelOf(other, n), levelOf(y, n)) || !isNarrower(lackOf(other, n), lackOf(y, n)) || !isNarrower(overOf(other, n), overOf(y, n)) {
				t.Errorf("%v: on %d %v, %v, %v, but with the Rain %v on %d %v, %v, %v", y, n, levelOf(y, n), lackOf(y, n), overOf(y, n), rain, day, levelOf(other, n), lackOf(other, n), overOf(other, n))
			}
			if levelOf(other, n) != levelOf(y, n) {
				narrower++
			}
		}
		dry, must := dayOf(cisterns.Dry(y)), dayOf(cisterns.Must(y))
		after, surely := dayOf(cisterns.Dry(other)), dayOf(cisterns.Must(other))
		if after < dry || surely > must {
			t.Errorf("%v: Dry = %d, Must = %d, but with the Rain %v on %d %d, %d", y, dry, must, rain, day, after, surely)
		}
		later, earlier = later+after-dry, earlier+must-surely
	})
	if narrower < 1000 || later < 100 || earlier < 100 {
		t.Errorf("not all was tried: %d, %d, %d", narrower, later, earlier)
	}
}

func TestP10_21InTwoParts(t *testing.T) {
	tried := 0
	eachYear(21, 2000, func(r *rand.Rand, y api.CisternYear) {
		weather := someWeather(r, y)
		levels, lacks, overs := allRun(y, weather)
		for cut := range len(y.Days) + 1 {
			one, other := year(y.Size, y.Start, y.Days[:cut]...), year(y.Size, y.Start, y.Days[cut:]...)
			firstLevels, firstLacks, firstOvers := allRun(one, weather[:cut])
			if cut > 0 {
				other.Start = firstLevels[cut-1]
			}
			otherLevels, otherLacks, otherOvers := allRun(other, weather[cut:])
			if !slices.Equal(slices.Concat(firstLevels, otherLevels), levels) || !slices.Equal(slices.Concat(firstLacks, otherLacks), lacks) || !slices.Equal(slices.Concat(firstOvers, otherOvers), overs) {
				t.Errorf("%v, %v: not the same if it is cut before %d", y, weather, cut)
			}
			if cut > 0 && cut < len(y.Days) && other.Start > 0 {
				tried++
			}
		}
	})
	if tried < 1000 {
		t.Errorf("only %d years in two parts were tried", tried)
	}
}
