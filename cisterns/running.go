package cisterns

import (
	"iter"
	"slices"
	"sync"

	"steening/api"
)

// rainOf tells how much rain comes on a day.
type rainOf func(day int) int

// given returns the rain of a weather.
func given(weather []int) rainOf {
	return func(day int) int { return weather[day] }
}

// driest returns the rain of the driest weather.
func driest(y api.CisternYear) rainOf {
	return func(day int) int { return y.Days[day].Rain.Low }
}

// wettest returns the rain of the wettest weather.
func wettest(y api.CisternYear) rainOf {
	return func(day int) int { return y.Days[day].Rain.High }
}

// account is what comes of a day: its level, what lacks and what runs over on
// it, and all that has run over up to and with it.
type account struct {
	level, lack, over, overs int
}

// days yields what comes of one day after the other.
func days(y api.CisternYear, rain rainOf) iter.Seq[account] {
	return func(yield func(account) bool) {
		a := account{level: y.Start}
		for n, d := range y.Days {
			a = a.next(y.Size, rain(n), d.Want)
			if !yield(a) {
				return
			}
		}
	}
}

// next returns what comes of the day behind this one.
func (a account) next(size, rain, want int) account {
	over := max(0, a.level+rain-size)
	full := a.level + rain - over
	lack := max(0, want-full)
	return account{level: full - want + lack, lack: lack, over: over, overs: a.overs + over}
}

// extremes are what comes of each day in the driest, and in the wettest weather.
// With more rain there is never less, no more lacks, and no less has run over, so
// that all other weathers are between them.
type extremes struct {
	driest, wettest []account
}

// reckon returns the extremes of a valid year.
func reckon(y api.CisternYear) extremes {
	rains := []rainOf{driest(y), wettest(y)}
	accounts := make([][]account, len(rains))
	var both sync.WaitGroup
	for n, rain := range rains {
		both.Add(1)
		go func() {
			defer both.Done()
			accounts[n] = slices.Collect(days(y, rain))
		}()
	}
	both.Wait()
	return extremes{driest: accounts[0], wettest: accounts[1]}
}

// learn returns the extremes of a year, with the errors that all functions
// share, in their order.
func learn(y api.CisternYear, canBe bool) (extremes, api.Errno) {
	if e := check(y, canBe); e != api.OK {
		return extremes{}, e
	}
	return reckon(y), api.OK
}

// right returns the first day with which so much has run over, in the wettest
// and in the driest weather, if so much runs over in each one.
func (x extremes) right(amount int) (between api.Span, is bool) {
	so := func(a account) bool { return a.overs >= amount }
	// What runs over in the driest weather does so in the wettest one.
	early, _ := first(x.wettest, so)
	late, is := first(x.driest, so)
	return api.Span{Low: early, High: late}, is
}

// lacks reports whether something lacks on a day.
func lacks(a account) bool {
	return a.lack > 0
}

// first returns the first day of which something is so, if there is one.
func first(accounts []account, so func(a account) bool) (day int, is bool) {
	day = slices.IndexFunc(accounts, so)
	return day, day >= 0
}
