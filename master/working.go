package master

import "steening/api"

// letter is the number of a letter, counted from 0.
type letter byte

// letters are the numbers that are kept, each under its letter.
type letters struct {
	kept    [26]bool
	numbers [26]int
}

// keep puts a number in the place of what was kept under a letter.
func (l *letters) keep(under letter, n int) {
	l.kept[under], l.numbers[under] = true, n
}

// numbersOf returns the numbers of some arguments, if all of them are known.
func (l *letters) numbersOf(arguments []argument) (numbers []int, are bool) {
	for _, a := range arguments {
		n := a.number
		if a.isLetter {
			if !l.kept[a.letter] {
				return nil, false
			}
			n = l.numbers[a.letter]
		}
		numbers = append(numbers, n)
	}
	return numbers, true
}

// working is a master at work: what is kept, the town, and how all of it was
// when the last one of the open tries was opened (nil: no try is open).
type working struct {
	letters
	town   api.MasterTown
	opened *working
}

// doLine does the line of a text.
func (w *working) doLine(text string) result {
	l, isClear := read(text)
	if !isClear {
		return unclear
	}
	numbers, areKnown := w.numbersOf(l.arguments)
	if !areKnown {
		return unknown
	}
	return l.do(w, numbers)
}

// tries returns the kinds of lines that open and close tries.
func tries() []kind {
	return []kind{
		{"begin", 0, func(w *working, _ []int) result {
			was := *w
			w.opened = &was
			return done
		}},
		{"end", 0, closing(func(w *working) { w.opened = w.opened.opened })},
		// The tries around this one were open then, too, and are so again.
		{"drop", 0, closing(func(w *working) { *w = *w.opened })},
	}
}

// closing returns how a line is done that closes the last one of the open tries.
func closing(last func(w *working)) deed {
	return func(w *working, _ []int) result {
		if w.opened == nil {
			return refused
		}
		last(w)
		return done
	}
}
