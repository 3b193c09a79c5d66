package master

import (
	"steening/buckets"
	"steening/cisterns"
	"steening/shafts"
)

// questions returns the kinds of lines that ask.
func questions() []kind {
	return []kind{
		{"fewest", 0, func(w *working, _ []int) result { return asNumber(shafts.Fewest(w.town.Shaft)) }},
		{"cheap", 0, func(w *working, _ []int) result { return asNumber(shafts.Cheap(w.town.Shaft)) }},
		{"deep", 1, func(w *working, n []int) result { return asNumber(shafts.Deep(w.town.Shaft, n[0])) }},
		{"next", 1, func(w *working, n []int) result { return asNumber(shafts.Next(w.town.Shaft, n[0])) }},
		{"most", 0, func(w *working, _ []int) result { return asNumber(buckets.Most(w.town.Buckets)) }},
		{"lacks", 0, func(w *working, _ []int) result { return asList(buckets.Lacks(w.town.Buckets)) }},
		{"draws", 1, func(w *working, n []int) result { return asSpan(buckets.House(w.town.Buckets, n[0])) }},
		{"dry", 1, func(w *working, n []int) result { return asNumber(buckets.Dry(w.town.Buckets, n[0])) }},
		{"short", 0, func(w *working, _ []int) result { return asList(buckets.Short(w.town.Buckets)) }},
		{"empty", 0, func(w *working, _ []int) result { return asNumber(cisterns.Dry(w.town.Year)) }},
		{"least", 0, func(w *working, _ []int) result { return asNumber(cisterns.Size(w.town.Year)) }},
		{"ration", 0, func(w *working, _ []int) result { return asNumber(cisterns.Ration(w.town.Year)) }},
		{"spare", 1, func(w *working, n []int) result { return asNumber(cisterns.Spare(w.town.Year, n[0])) }},
		{"level", 1, func(w *working, n []int) result { return asSpan(cisterns.Level(w.town.Year, n[0])) }},
	}
}

// keeping returns how a line is done that keeps what comes of another one under
// a letter, if that is a number.
func keeping(under letter, ask deed) deed {
	return func(w *working, numbers []int) result {
		r := ask(w, numbers)
		if n, is := numberOf(r); is {
			w.keep(under, n)
		}
		return r
	}
}
