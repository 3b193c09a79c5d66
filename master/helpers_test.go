package master_test

import (
	"fmt"
	"math/rand"
	"regexp"
	"slices"
	"strconv"
	"strings"

	"steening/api"
	"steening/buckets"
	"steening/cisterns"
	"steening/master"
	"steening/shafts"
)

func list(l ...int) []int { return l }

// lines returns the lines of a text, in which `; ` is between each two.
func lines(text string) []string { return strings.Split(text, "; ") }

func rock(hours, pence, stand, seat int) api.ShaftRock {
	return api.ShaftRock{Hours: hours, Pence: pence, Stand: stand, Seat: seat}
}

func day(low, high, want int) api.CisternDay {
	return api.CisternDay{Rain: api.Span{Low: low, High: high}, Want: want}
}

// ways returns ways of House and Well that are given in turn.
func ways(numbers ...int) []api.BucketWay {
	var all []api.BucketWay
	for way := range slices.Chunk(numbers, 2) {
		all = append(all, api.BucketWay{House: way[0], Well: way[1]})
	}
	return all
}

// townM is the town of the chapter's examples.
func townM() api.MasterTown {
	return api.MasterTown{
		Shaft:   api.Shaft{Rocks: []api.ShaftRock{rock(1, 2, 2, 9), rock(1, 2, 2, 0)}, Feet: list(1, 0, 1, 0), Rest: 2},
		Buckets: api.BucketTown{Houses: list(5, 4, 3), Wells: list(4, 3), Ways: ways(0, 0, 1, 0, 1, 1, 2, 1)},
		Year:    api.CisternYear{Size: 10, Start: 5, Days: []api.CisternDay{day(0, 2, 1), day(6, 9, 2), day(0, 0, 7), day(4, 4, 3)}},
	}
}

// widest is the town with the greatest numbers of all.
func widest() api.MasterTown {
	return api.MasterTown{
		Shaft:   api.Shaft{Rocks: slices.Repeat([]api.ShaftRock{rock(9, 99, 1, 99)}, 4), Feet: slices.Repeat(list(3), 12), Deep: 9, Haul: 9, Rest: 9},
		Buckets: api.BucketTown{Houses: list(9, 9, 9, 9, 9, 9), Wells: list(20, 20, 20, 20, 20), Ways: ways(0, 0, 0, 4, 1, 0, 1, 1, 2, 1, 2, 2, 3, 2, 3, 3, 4, 3, 4, 4, 5, 0, 5, 4)},
		Year:    api.CisternYear{Size: 60, Start: 60, Days: slices.Repeat([]api.CisternDay{day(0, 20, 20)}, 8)},
	}
}

// plain returns some towns at the ends of what can be.
func plain() []api.MasterTown {
	return []api.MasterTown{
		{},
		{Shaft: townM().Shaft},
		{Buckets: townM().Buckets},
		{Year: townM().Year},
		with(townM(), func(t *api.MasterTown) { t.Shaft.Rocks[0].Seat, t.Shaft.Rocks[1].Stand = api.ShaftNone, 0 }),
		with(townM(), func(t *api.MasterTown) { t.Buckets.Ways = nil }),
		with(townM(), func(t *api.MasterTown) { t.Year.Days = nil }),
		widest(),
		townM(),
	}
}

// clone returns a town that shares no memory with another one.
func clone(t api.MasterTown) api.MasterTown {
	t.Shaft.Rocks, t.Shaft.Feet = slices.Clone(t.Shaft.Rocks), slices.Clone(t.Shaft.Feet)
	t.Buckets.Houses, t.Buckets.Wells, t.Buckets.Ways = slices.Clone(t.Buckets.Houses), slices.Clone(t.Buckets.Wells), slices.Clone(t.Buckets.Ways)
	t.Year.Days = slices.Clone(t.Year.Days)
	return t
}

// with returns a town in which something is changed.
func with(t api.MasterTown, change func(t *api.MasterTown)) api.MasterTown {
	t = clone(t)
	change(&t)
	return t
}

// sameShaft reports whether two shafts are the same, and same whether two towns
// are.
func sameShaft(a, b api.Shaft) bool {
	return slices.Equal(a.Rocks, b.Rocks) && slices.Equal(a.Feet, b.Feet) && a.Deep == b.Deep && a.Haul == b.Haul && a.Rest == b.Rest
}

func same(a, b api.MasterTown) bool {
	buckets := slices.Equal(a.Buckets.Houses, b.Buckets.Houses) && slices.Equal(a.Buckets.Wells, b.Buckets.Wells) && slices.Equal(a.Buckets.Ways, b.Buckets.Ways)
	year := a.Year.Size == b.Year.Size && a.Year.Start == b.Year.Start && slices.Equal(a.Year.Days, b.Year.Days)
	return sameShaft(a.Shaft, b.Shaft) && buckets && year
}

// isUpTo reports whether each number is from 0 to another one.
func isUpTo(most int, numbers ...int) bool {
	return !slices.ContainsFunc(numbers, func(n int) bool { return n < 0 || n > most })
}

// isShaft, isBuckets and isYear report whether a part of a town is as the
// chapters of the layers 2, 3 and 10 say, and isTown whether all of them are.
func isShaft(s api.Shaft) bool {
	is := len(s.Rocks) <= 4 && len(s.Feet) <= 12 && isUpTo(9, s.Deep, s.Haul, s.Rest) && isUpTo(len(s.Rocks)-1, s.Feet...)
	for _, r := range s.Rocks {
		is = is && isUpTo(9, r.Hours) && isUpTo(99, r.Pence) && isUpTo(12, r.Stand) && (isUpTo(99, r.Seat) || r.Seat == -1)
	}
	return is
}

func isBuckets(b api.BucketTown) bool {
	is := len(b.Houses) <= 6 && isUpTo(9, b.Houses...) && len(b.Wells) <= 5 && isUpTo(20, b.Wells...) && len(b.Ways) <= 12
	for n, w := range b.Ways {
		is = is && isUpTo(len(b.Houses)-1, w.House) && isUpTo(len(b.Wells)-1, w.Well)
		is = is && (n == 0 || 10*b.Ways[n-1].House+b.Ways[n-1].Well < 10*w.House+w.Well)
	}
	return is
}

func isYear(y api.CisternYear) bool {
	is := isUpTo(60, y.Size) && isUpTo(y.Size, y.Start) && len(y.Days) <= 8
	for _, d := range y.Days {
		is = is && isUpTo(20, d.Rain.High, d.Want) && isUpTo(d.Rain.High, d.Rain.Low)
	}
	return is
}

func isTown(t api.MasterTown) bool {
	return isShaft(t.Shaft) && isBuckets(t.Buckets) && isYear(t.Year)
}

// words returns the words of all lines but `keep`, each with how many arguments
// it has, by what its lines do.
func words() (change, try, number, other map[string]int) {
	change = map[string]int{"rock": 4, "foot": 1, "up": 0, "house": 1, "well": 1, "want": 2, "has": 2, "way": 2, "day": 3, "size": 1}
	try = map[string]int{"begin": 0, "end": 0, "drop": 0}
	number = map[string]int{"fewest": 0, "cheap": 0, "deep": 1, "next": 1, "most": 0, "dry": 1, "empty": 0, "least": 0, "ration": 0, "spare": 1}
	other = map[string]int{"lacks": 0, "draws": 1, "short": 0, "level": 1}
	return change, try, number, other
}

// asks reports whether a word is one of a line that asks.
func asks(word string) bool {
	_, _, number, other := words()
	_, isNumber := number[word]
	_, isOther := other[word]
	return isNumber || isOther
}

// written returns the answer to a line for which a function returns something.
func written(value any, e api.Errno) string {
	if e == api.ErrNone {
		return "none"
	}
	if e != api.OK {
		return "wrong"
	}
	switch v := value.(type) {
	case api.Span:
		return fmt.Sprintf("%d to %d", v.Low, v.High)
	case []int:
		if len(v) == 0 {
			return "nothing"
		}
		return strings.Trim(fmt.Sprint(v), "[]")
	}
	return fmt.Sprint(value)
}

// asked returns what the function of a line that asks returns, as an answer.
func asked(t api.MasterTown, word string, n []int) string {
	switch word {
	case "fewest":
		return written(shafts.Fewest(t.Shaft))
	case "cheap":
		return written(shafts.Cheap(t.Shaft))
	case "deep":
		return written(shafts.Deep(t.Shaft, n[0]))
	case "next":
		return written(shafts.Next(t.Shaft, n[0]))
	case "most":
		return written(buckets.Most(t.Buckets))
	case "lacks":
		return written(buckets.Lacks(t.Buckets))
	case "draws":
		return written(buckets.House(t.Buckets, n[0]))
	case "dry":
		return written(buckets.Dry(t.Buckets, n[0]))
	case "short":
		return written(buckets.Short(t.Buckets))
	case "empty":
		return written(cisterns.Dry(t.Year))
	case "least":
		return written(cisterns.Size(t.Year))
	case "ration":
		return written(cisterns.Ration(t.Year))
	case "spare":
		return written(cisterns.Spare(t.Year, n[0]))
	}
	return written(cisterns.Level(t.Year, n[0]))
}

// changed returns a town that a line with some numbers has changed, if it is not
// refused.
func changed(t api.MasterTown, word string, n []int) (after api.MasterTown, is bool) {
	t = clone(t)
	s, b, y := &t.Shaft, &t.Buckets, &t.Year
	switch word {
	case "rock":
		s.Rocks = append(s.Rocks, rock(n[0], n[1], n[2], n[3]))
	case "foot":
		s.Feet = append(s.Feet, n[0])
	case "up":
		if len(s.Feet) == 0 {
			return t, false
		}
		s.Feet = slices.Delete(s.Feet, len(s.Feet)-1, len(s.Feet))
	case "house":
		b.Houses = append(b.Houses, n[0])
	case "well":
		b.Wells = append(b.Wells, n[0])
	case "want":
		if n[0] < 0 || n[0] > len(b.Houses)-1 {
			return t, false
		}
		b.Houses[n[0]] = n[1]
	case "has":
		if n[0] < 0 || n[0] > len(b.Wells)-1 {
			return t, false
		}
		b.Wells[n[0]] = n[1]
	case "way":
		return withWay(t, api.BucketWay{House: n[0], Well: n[1]})
	case "day":
		y.Days = append(y.Days, day(n[0], n[1], n[2]))
	case "size":
		y.Size = n[0]
	}
	return t, isTown(t)
}

// withWay returns a town with one way more: all ways that there can be are gone
// through in their order.
func withWay(t api.MasterTown, one api.BucketWay) (after api.MasterTown, is bool) {
	old := t.Buckets.Ways
	t.Buckets.Ways = nil
	for house := range t.Buckets.Houses {
		for well := range t.Buckets.Wells {
			w := api.BucketWay{House: house, Well: well}
			if w == one || slices.Contains(old, w) {
				t.Buckets.Ways = append(t.Buckets.Ways, w)
			}
		}
	}
	return t, len(t.Buckets.Ways) == len(old)+1 && isTown(t)
}

// form is that of a line, but for what its words are, and how many arguments they
// have.
var form = regexp.MustCompile(`\A(?:keep ([a-z]) )?([a-z]+)((?: (?:[a-z]|0|-?[1-9][0-9]{0,5}))*)\z`)

// split returns the letter under which a line keeps something (empty: none), its
// word, and its arguments; the word is empty if the line is not clear.
func split(text string) (under, word string, arguments []string) {
	parts := form.FindStringSubmatch(text)
	if parts == nil {
		return "", "", nil
	}
	under, word, arguments = parts[1], parts[2], strings.Fields(parts[3])
	change, try, number, other := words()
	for _, known := range []map[string]int{change, try, number, other} {
		if many, is := known[word]; is && many == len(arguments) && (under == "" || asks(word)) {
			return under, word, arguments
		}
	}
	return "", "", nil
}

// model is a master who has no town, and no letters, but all lines that were done
// and not dropped, with numbers for letters. They are gone through again for each
// line. (`a 7` says that 7 is kept under a.)
type model struct {
	first  api.MasterTown
	past   []string
	opened []int // how many of them there were when each open try was opened
}

// town returns the town as all lines have left it.
func (m *model) town() api.MasterTown {
	t := m.first
	for _, text := range m.past {
		words := strings.Fields(text)
		t, _ = changed(t, words[0], numbers(words[1:]))
	}
	return t
}

// numbers returns numbers that are written down.
func numbers(texts []string) []int {
	var all []int
	for _, text := range texts {
		n, err := strconv.Atoi(text)
		if err != nil {
			panic(err)
		}
		all = append(all, n)
	}
	return all
}

// told returns arguments with numbers for letters, if all are known.
func (m *model) told(arguments []string) (told []string, are bool) {
	for _, a := range arguments {
		if a[0] >= 'a' {
			kept := slices.DeleteFunc(slices.Clone(m.past), func(text string) bool { return !strings.HasPrefix(text, a+" ") })
			if len(kept) == 0 {
				return nil, false
			}
			a = strings.Fields(kept[len(kept)-1])[1]
		}
		told = append(told, a)
	}
	return told, true
}

// line returns the answer to a line.
func (m *model) line(text string) string {
	under, word, arguments := split(text)
	if word == "" {
		return "what"
	}
	told, are := m.told(arguments)
	if !are {
		return "unknown"
	}
	change, try, number, _ := words()
	if _, is := try[word]; is {
		return m.try(word)
	}
	if _, is := change[word]; is {
		if _, is := changed(m.town(), word, numbers(told)); !is {
			return "no"
		}
		m.past = append(m.past, strings.Join(append([]string{word}, told...), " "))
		return "ok"
	}
	answer := asked(m.town(), word, numbers(told))
	if _, is := number[word]; is && under != "" && answer != "none" && answer != "wrong" {
		m.past = append(m.past, under+" "+answer)
	}
	return answer
}

// try returns the answer to a line that opens or closes.
func (m *model) try(word string) string {
	if word == "begin" {
		m.opened = append(m.opened, len(m.past))
		return "ok"
	}
	last := len(m.opened) - 1
	if last < 0 {
		return "no"
	}
	if word == "drop" {
		m.past = m.past[:m.opened[last]]
	}
	m.opened = m.opened[:last]
	return "ok"
}

// modelled returns what Run should return for a valid town and not too many
// lines.
func modelled(t api.MasterTown, lines []string) (answers []string, after api.MasterTown) {
	m := &model{first: t}
	for _, text := range lines {
		answers = append(answers, m.line(text))
	}
	return answers, m.town()
}

// run returns what Run returns, without an error.
func run(t api.MasterTown, lines ...string) (answers []string, after api.MasterTown) {
	answers, after, e := master.Run(t, lines)
	if e != api.OK || len(answers) != len(lines) {
		panic(fmt.Sprintf("Run(%v, %q) = %q, %v, %d", t, lines, answers, after, e))
	}
	return answers, after
}

// someNumber returns a number up to another one, sometimes one more, or less than
// 0, or a far greater one.
func someNumber(r *rand.Rand, most int) int {
	switch r.Intn(40) {
	case 0:
		return most + 1
	case 1:
		return -1
	case 2:
		return []int{-999999, -2, 100, 999999}[r.Intn(4)]
	}
	return r.Intn(most + 1)
}

// someTown returns a valid town, with or without room for more.
func someTown(r *rand.Rand) api.MasterTown {
	var t api.MasterTown
	s, b, y := &t.Shaft, &t.Buckets, &t.Year
	for range r.Intn(5) {
		s.Rocks = append(s.Rocks, rock(r.Intn(10), r.Intn(100), r.Intn(13), r.Intn(101)-1))
	}
	if len(s.Rocks) > 0 {
		for range r.Intn(13) {
			s.Feet = append(s.Feet, r.Intn(len(s.Rocks)))
		}
	}
	s.Deep, s.Haul, s.Rest = r.Intn(10), r.Intn(10), r.Intn(10)
	for range r.Intn(7) {
		b.Houses = append(b.Houses, r.Intn(10))
	}
	for range r.Intn(6) {
		b.Wells = append(b.Wells, r.Intn(21)/(1+r.Intn(4)))
	}
	for house := range b.Houses {
		for well := range b.Wells {
			if r.Intn(3) == 0 && len(b.Ways) < 12 {
				b.Ways = append(b.Ways, api.BucketWay{House: house, Well: well})
			}
		}
	}
	y.Size = r.Intn(61)
	y.Start = r.Intn(y.Size + 1)
	for range r.Intn(9) {
		high := r.Intn(21)
		y.Days = append(y.Days, day(r.Intn(high+1), high, r.Intn(21)/(1+r.Intn(3))))
	}
	return t
}

// mosts returns up to which number the arguments of lines with a word are such as
// can be.
func mosts(word string) []int {
	return map[string][]int{
		"rock": list(9, 99, 12, 99), "foot": list(3), "house": list(9), "well": list(20), "want": list(5, 9), "has": list(4, 20), "way": list(5, 4), "day": list(10, 20, 20), "size": list(60),
		"deep": list(9999), "next": list(3), "dry": list(4), "spare": list(7), "draws": list(5), "level": list(7),
	}[word]
}

// someWord returns one of some words.
func someWord(r *rand.Rand, known map[string]int) string {
	var all []string
	for word := range known {
		all = append(all, word)
	}
	slices.Sort(all)
	return all[r.Intn(len(all))]
}

// clearLine returns a line with a word and such arguments as its lines have: of
// each so many of them some are letters.
func clearLine(r *rand.Rand, word string, letters int) string {
	for _, most := range mosts(word) {
		if r.Intn(10) < letters {
			word += " " + string(rune('a'+r.Intn(3)))
		} else {
			word += " " + strconv.Itoa(someNumber(r, most))
		}
	}
	return word
}

// someChange returns a line that changes the town, and someQuestion one that
// asks, sometimes to keep it.
func someChange(r *rand.Rand, letters int) string {
	change, _, _, _ := words()
	return clearLine(r, someWord(r, change), letters)
}

func someQuestion(r *rand.Rand, letters int) string {
	_, _, number, other := words()
	text := clearLine(r, someWord(r, number), letters)
	if r.Intn(4) == 0 {
		text = clearLine(r, someWord(r, other), letters)
	}
	if r.Intn(10) < letters*2 {
		text = "keep " + string(rune('a'+r.Intn(3))) + " " + text
	}
	return text
}

// someInner returns a line that neither opens nor closes.
func someInner(r *rand.Rand, letters int) string {
	switch r.Intn(20) {
	case 0:
		return []string{"", "keep a", "size", "foot +1", "up 1", "Cheap", "keep a up", "way 0", "most "}[r.Intn(9)]
	case 1, 2, 3, 4, 5, 6, 7:
		return someQuestion(r, letters)
	}
	return someChange(r, letters)
}

// someLine returns any line.
func someLine(r *rand.Rand, letters int) string {
	if r.Intn(5) == 0 {
		_, try, _, _ := words()
		return someWord(r, try)
	}
	return someInner(r, letters)
}

// some returns so many lines at the most, each from a function.
func some(r *rand.Rand, most int, one func(r *rand.Rand, letters int) string, letters int) []string {
	var all []string
	for range r.Intn(most + 1) {
		all = append(all, one(r, letters))
	}
	return all
}

// each calls a function with so many random towns.
func each(seed int64, many int, do func(r *rand.Rand, t api.MasterTown)) {
	r := rand.New(rand.NewSource(seed))
	for range many {
		do(r, someTown(r))
	}
}

// hasLetter reports whether a line has a letter as an argument.
func hasLetter(text string) bool {
	_, _, arguments := split(text)
	return slices.ContainsFunc(arguments, func(a string) bool { return a[0] >= 'a' })
}

// changesNothing reports whether a line asks and keeps nothing, is refused, is
// not clear, or has a letter that is not known, by its answer.
func changesNothing(text, answer string) bool {
	under, word, _ := split(text)
	_, _, number, _ := words()
	_, isNumber := number[word]
	if under != "" && isNumber {
		return slices.Contains([]string{"none", "wrong", "unknown"}, answer)
	}
	return slices.Contains([]string{"no", "what", "unknown"}, answer) || asks(word)
}

// depths returns how many tries are open ahead of each line, and behind the last
// one.
func depths(lines, answers []string) []int {
	open := list(0)
	for n, text := range lines {
		deep := open[n]
		if answers[n] == "ok" && text == "begin" {
			deep++
		}
		if answers[n] == "ok" && (text == "end" || text == "drop") {
			deep--
		}
		open = append(open, deep)
	}
	return open
}
