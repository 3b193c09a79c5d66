package master

import (
	"slices"
	"strconv"
	"strings"
)

// maxNumber is the greatest number of six digits.
const maxNumber = 999999

// deed is how a master does a line, with the numbers of its arguments.
type deed func(w *working, numbers []int) result

// kind is the word with which lines begin, how many arguments they have, and how
// they are done.
type kind struct {
	word      string
	arguments int
	do        deed
}

// argument is a number, or, if it is a letter, the one under which its number is
// kept.
type argument struct {
	number   int
	letter   letter
	isLetter bool
}

// line is a line that is clear: how it is done, and its arguments.
type line struct {
	do        deed
	arguments []argument
}

// read returns the line of a text, if it is clear.
func read(text string) (l line, isClear bool) {
	words := strings.Split(text, " ")
	if words[0] == "keep" {
		return readKeep(words[1:])
	}
	return readAs(slices.Concat(changes(), tries(), questions()), words)
}

// readKeep returns the line of the words behind a `keep`, if it is clear.
func readKeep(words []string) (l line, isClear bool) {
	if len(words) < 2 {
		return line{}, false
	}
	under, isLetter := letterIn(words[0])
	l, isClear = readAs(questions(), words[1:])
	if !isLetter || !isClear {
		return line{}, false
	}
	l.do = keeping(under, l.do)
	return l, true
}

// readAs returns the line of a word and those behind it, if it is clear, and of
// one of some kinds.
func readAs(kinds []kind, words []string) (l line, isClear bool) {
	n := slices.IndexFunc(kinds, func(k kind) bool {
		return k.word == words[0] && k.arguments == len(words)-1
	})
	if n < 0 {
		return line{}, false
	}
	l.do = kinds[n].do
	for _, text := range words[1:] {
		a, is := argumentIn(text)
		if !is {
			return line{}, false
		}
		l.arguments = append(l.arguments, a)
	}
	return l, true
}

// argumentIn returns the argument that a text is, if it is one.
func argumentIn(text string) (a argument, is bool) {
	if l, is := letterIn(text); is {
		return argument{letter: l, isLetter: true}, true
	}
	n, is := numberIn(text)
	return argument{number: n}, is
}

// letterIn returns the letter that a text is, if it is one.
func letterIn(text string) (l letter, is bool) {
	if len(text) != 1 || text[0] < 'a' || text[0] > 'z' {
		return 0, false
	}
	return letter(text[0] - 'a'), true
}

// numberIn returns the number that a text is, if it is one.
func numberIn(text string) (n int, is bool) {
	n, err := strconv.Atoi(text)
	if err != nil || n > maxNumber || n < -maxNumber {
		return 0, false
	}
	// There is one way only to write a number: without plus sign, leading zeros,
	// and a `-` in front of 0.
	if strconv.Itoa(n) != text {
		return 0, false
	}
	return n, true
}
