package master

import (
	"strconv"
	"strings"

	"steening/api"
)

// result is what comes of a line.
type result interface {
	write() string
}

// number, span and list are what functions return, and word is all else that
// can come of a line.
type (
	number int
	span   api.Span
	list   []int
	word   string
)

// The words that come of lines.
const (
	done    word = "ok"
	refused word = "no"
	unclear word = "what"
	unknown word = "unknown"
	none    word = "none"
	wrong   word = "wrong"
)

func (n number) write() string {
	return strconv.Itoa(int(n))
}

func (s span) write() string {
	return strconv.Itoa(s.Low) + " to " + strconv.Itoa(s.High)
}

func (l list) write() string {
	if len(l) == 0 {
		return "nothing"
	}
	var numbers []string
	for _, n := range l {
		numbers = append(numbers, strconv.Itoa(n))
	}
	return strings.Join(numbers, " ")
}

func (w word) write() string {
	return string(w)
}

// numberOf returns the number that a result is, if it is one.
func numberOf(r result) (n int, is bool) {
	switch r := r.(type) {
	case number:
		return int(r), true
	default:
		return 0, false
	}
}

// asNumber returns what comes of a line for which a function returns a number.
func asNumber(n int, e api.Errno) result {
	return unlessError(number(n), e)
}

// asSpan returns what comes of a line for which a function returns a span.
func asSpan(s api.Span, e api.Errno) result {
	return unlessError(span(s), e)
}

// asList returns what comes of a line for which a function returns a list.
func asList(l []int, e api.Errno) result {
	return unlessError(list(l), e)
}

// unlessError returns a result, unless the function returned an error with it.
func unlessError(r result, e api.Errno) result {
	switch e {
	case api.OK:
		return r
	case api.ErrNone:
		return none
	}
	return wrong
}
