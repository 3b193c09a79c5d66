package knots

import "steening/api"

// numberOf returns the number of digits, the first one being the highest.
func numberOf(base int, digits ...int) int {
	number := 0
	for _, digit := range digits {
		number = number*base + digit
	}
	return number
}

// digitsOf returns the digits of a number, if it has such.
func digitsOf(b api.KnotBook, number int) (digits []int, is bool) {
	if number < 0 {
		return nil, false
	}
	digits = make([]int, b.Places)
	for place := b.Places - 1; place >= 0; place-- {
		digits[place] = number % b.Base
		number /= b.Base
	}
	return digits, number == 0
}

// areDigits reports whether a list of any numbers is digits.
func areDigits(b api.KnotBook, list []int) bool {
	if len(list) != b.Places {
		return false
	}
	for _, digit := range list {
		if digit < 0 || digit >= b.Base {
			return false
		}
	}
	return true
}

// between returns between what numbers a cord has by its own clusters.
func between(b api.KnotBook, cord int) api.Span {
	var lows, highs []int
	for _, s := range tied(b, cord) {
		lows = append(lows, s.Low)
		highs = append(highs, s.High)
	}
	return api.Span{Low: numberOf(b.Base, lows...), High: numberOf(b.Base, highs...)}
}

// isReading reports whether lists of any numbers are a reading, right or not.
func isReading(b api.KnotBook, lists [][]int) bool {
	if len(lists) != len(b.Cords)+1 {
		return false
	}
	for cord, list := range lists {
		if len(list) != b.Places {
			return false
		}
		for place, s := range tied(b, cord) {
			if !isFrom(list[place], s.Low, s.High) {
				return false
			}
		}
	}
	return true
}

// isRight reports whether a reading is right.
func isRight(b api.KnotBook, reading [][]int) bool {
	sum := 0
	for _, digits := range reading[:len(b.Cords)] {
		sum += numberOf(b.Base, digits...)
	}
	return sum == numberOf(b.Base, reading[len(b.Cords)]...)
}
