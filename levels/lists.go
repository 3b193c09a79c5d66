package levels

import (
	"iter"
	"slices"
)

// lists yields all lists of n numbers from 0 to many - 1, each of which fits
// behind those ahead of it, the least list first. A list is there only until
// the next one is yielded.
func lists(many, n int, fits func(list []int, next int) bool) iter.Seq[[]int] {
	return func(yield func([]int) bool) {
		grow(make([]int, 0, n), many, n, fits, yield)
	}
}

// grow yields all lists of n numbers that begin with a list. It reports
// whether more lists are wanted.
func grow(list []int, many, n int, fits func(list []int, next int) bool, yield func([]int) bool) bool {
	if len(list) == n {
		return yield(list)
	}
	for next := range many {
		if fits(list, next) && !grow(append(list, next), many, n, fits, yield) {
			return false
		}
	}
	return true
}

// ascends reports whether a number keeps a list strictly ascending.
func ascends(list []int, next int) bool {
	return len(list) == 0 || list[len(list)-1] < next
}

// differs reports whether a number is not in a list yet.
func differs(list []int, next int) bool {
	return !slices.Contains(list, next)
}
