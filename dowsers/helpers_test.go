package dowsers_test

import (
	"math/big"
	"math/rand"
	"slices"

	"steening/api"
	"steening/dowsers"
)

// sayings returns sayings of dowsers, places, and least and greatest depths that
// are given in turn.
func sayings(numbers ...int) []api.DowseSaying {
	var all []api.DowseSaying
	for n := 0; n < len(numbers); n += 4 {
		all = append(all, api.DowseSaying{Dowser: numbers[n], Place: numbers[n+1], Low: numbers[n+2], High: numbers[n+3]})
	}
	return all
}

// bookB is the book B of the chapter's examples.
func bookB() api.DowseBook {
	return api.DowseBook{
		Depth:   6,
		Found:   []int{3, 0, 5},
		Dowsers: 2,
		Sayings: sayings(0, 0, 2, 3, 0, 1, 1, 1, 0, 2, 1, 2, 1, 0, 3, 3, 1, 1, 1, 6, 1, 2, 4, 6),
		Pence:   10,
	}
}

// widest returns the book with the greatest numbers of all; nobody has dug.
func widest() api.DowseBook {
	b := api.DowseBook{Depth: 12, Found: make([]int, 6), Dowsers: 4, Pence: 999}
	for dowser := range 4 {
		for place := range 6 {
			b.Sayings = append(b.Sayings, api.DowseSaying{Dowser: dowser, Place: place, Low: 1 + 2*dowser + place%3, High: 4 + 2*dowser + place%3})
		}
	}
	b.Sayings[23].High = 12
	return b
}

// plain returns some books at the ends of what can be.
func plain() []api.DowseBook {
	return []api.DowseBook{
		{Depth: 1},
		{Depth: 12, Found: []int{}, Sayings: []api.DowseSaying{}},
		{Depth: 1, Found: []int{0, 1}, Dowsers: 1, Sayings: sayings(0, 0, 1, 1, 0, 1, 1, 1), Pence: 999},
		{Depth: 3, Found: []int{0, 2}, Pence: 7},
		{Depth: 4, Dowsers: 4, Pence: 9},
		{Depth: 12, Found: []int{12, 0, 1}, Dowsers: 3, Pence: 1},
		{Depth: 12, Found: []int{12}, Dowsers: 2, Sayings: sayings(0, 0, 12, 12, 1, 0, 1, 12), Pence: 999},
		{Depth: 2, Found: []int{2, 2}, Dowsers: 4, Sayings: sayings(0, 0, 1, 1, 3, 1, 1, 1), Pence: 5},
		bookB(),
	}
}

// clone returns a book that shares no memory with another one.
func clone(b api.DowseBook) api.DowseBook {
	b.Found, b.Sayings = slices.Clone(b.Found), slices.Clone(b.Sayings)
	return b
}

// same reports whether two books are the same.
func same(a, b api.DowseBook) bool {
	return a.Depth == b.Depth && a.Dowsers == b.Dowsers && a.Pence == b.Pence &&
		slices.Equal(a.Found, b.Found) && slices.Equal(a.Sayings, b.Sayings)
}

// inOrder returns sayings in their order.
func inOrder(all []api.DowseSaying) []api.DowseSaying {
	slices.SortFunc(all, func(a, b api.DowseSaying) int { return 10*(a.Dowser-b.Dowser) + a.Place - b.Place })
	return all
}

// depthsOf returns all depths of a saying.
func depthsOf(said api.DowseSaying) []int {
	var all []int
	for depth := said.Low; depth <= said.High; depth++ {
		all = append(all, depth)
	}
	return all
}

// pointsIn returns the points of a saying if so much is found at its place.
func pointsIn(b api.DowseBook, said api.DowseSaying, found int) int {
	points := -len(depthsOf(said))
	if slices.Contains(depthsOf(said), found) {
		points += b.Depth
	}
	return points
}

// scoresIn returns the scores of all dowsers if so much is found at each place;
// an open saying has no points.
func scoresIn(b api.DowseBook, found []int) []int {
	scores := make([]int, b.Dowsers)
	for _, said := range b.Sayings {
		if found[said.Place] != api.DowseNot {
			scores[said.Dowser] += pointsIn(b, said, found[said.Place])
		}
	}
	return scores
}

// leadsIn reports whether a dowser leads with some scores.
func leadsIn(scores []int, dowser int) bool {
	return !slices.ContainsFunc(scores, func(score int) bool { return score > scores[dowser] })
}

// truths returns all truths of a book.
func truths(b api.DowseBook) [][]int {
	all := [][]int{nil}
	for _, found := range b.Found {
		var longer [][]int
		for _, truth := range all {
			for depth := 1; depth <= b.Depth; depth++ {
				if found == api.DowseNot || found == depth {
					longer = append(longer, append(slices.Clone(truth), depth))
				}
			}
		}
		all = longer
	}
	return all
}

// truthScores returns the different lists of all scores in the truths of a
// book, found place by place.
func truthScores(b api.DowseBook) [][]int {
	all := map[[api.MaxDowsers]int]bool{{}: true}
	for place, found := range b.Found {
		more := make(map[[api.MaxDowsers]int]bool)
		for scores := range all {
			for depth := 1; depth <= b.Depth; depth++ {
				if found != api.DowseNot && found != depth {
					continue
				}
				next := scores
				for _, said := range b.Sayings {
					if said.Place == place {
						next[said.Dowser] += pointsIn(b, said, depth)
					}
				}
				more[next] = true
			}
		}
		all = more
	}
	var lists [][]int
	for scores := range all {
		lists = append(lists, slices.Clone(scores[:b.Dowsers]))
	}
	return lists
}

// leadsOf returns whether a dowser leads, by all scores that can be.
func leadsOf(scores [][]int, dowser int) int {
	many := 0
	for _, each := range scores {
		if leadsIn(each, dowser) {
			many++
		}
	}
	switch many {
	case len(scores):
		return api.Surely
	case 0:
		return api.Never
	}
	return api.Perhaps
}

// settlesAt reports whether a place settles who leads, whatever is found there.
func settlesAt(b api.DowseBook, place int) bool {
	for depth := 1; depth <= b.Depth; depth++ {
		scores := truthScores(digAt(b, place, depth))
		for dowser := range b.Dowsers {
			if leadsOf(scores, dowser) == api.Perhaps {
				return false
			}
		}
	}
	return true
}

// digAt returns a book in which so much is found at a place.
func digAt(b api.DowseBook, place, found int) api.DowseBook {
	b = clone(b)
	b.Found[place] = found
	return b
}

// judged returns the sayings of a dowser that are not open.
func judged(b api.DowseBook, dowser int) []api.DowseSaying {
	var all []api.DowseSaying
	for _, said := range b.Sayings {
		if said.Dowser == dowser && b.Found[said.Place] != api.DowseNot {
			all = append(all, said)
		}
	}
	return all
}

// chanceOf returns the chance with which at least as many of some sayings are
// right by guessing, found by going through all that can be right.
func chanceOf(depth, right int, widths []int) *big.Rat {
	chance := new(big.Rat)
	for set := range 1 << len(widths) {
		many, its := 0, big.NewRat(1, 1)
		for n, width := range widths {
			if set>>n&1 == 1 {
				many++
				its.Mul(its, big.NewRat(int64(width), int64(depth)))
			} else {
				its.Mul(its, big.NewRat(int64(depth-width), int64(depth)))
			}
		}
		if many >= right {
			chance.Add(chance, its)
		}
	}
	return chance
}

// rightAndWidths returns how many of a dowser's sayings that are not open are
// right, and their widths.
func rightAndWidths(b api.DowseBook, dowser int) (right int, widths []int) {
	for _, said := range judged(b, dowser) {
		widths = append(widths, len(depthsOf(said)))
		if slices.Contains(depthsOf(said), b.Found[said.Place]) {
			right++
		}
	}
	return right, widths
}

// isRatio reports whether a fraction is as great as another one.
func isRatio(a api.Ratio, b *big.Rat) bool {
	return b.Num().Cmp(big.NewInt(int64(a.Num))) == 0 && b.Denom().Cmp(big.NewInt(int64(a.Den))) == 0
}

// payOf returns what each dowser gets, by their scores.
func payOf(pence int, scores []int) []int {
	sum := 0
	for _, score := range scores {
		sum += max(score, 0)
	}
	paid := make([]int, len(scores))
	if sum == 0 {
		return paid
	}
	left := pence
	for dowser, score := range scores {
		for (paid[dowser]+1)*sum <= pence*score {
			paid[dowser]++
			left--
		}
	}
	had := make([]bool, len(scores))
	for ; left > 0; left-- {
		best, most := -1, 0
		for dowser, score := range scores {
			if cut := pence*score - paid[dowser]*sum; !had[dowser] && cut > most {
				best, most = dowser, cut
			}
		}
		had[best] = true
		paid[best]++
	}
	return paid
}

// someSaying returns a random saying, often one of few depths.
func someSaying(r *rand.Rand, dowser, place, depth int) api.DowseSaying {
	low := 1 + r.Intn(depth)
	high := low + r.Intn(depth-low+1)
	if r.Intn(2) == 0 {
		high = min(low+r.Intn(3), depth)
	}
	return api.DowseSaying{Dowser: dowser, Place: place, Low: low, High: high}
}

// someBook returns a random book of at most so great a depth, so many places,
// of which at most so many are not dug, and so many dowsers.
func someBook(r *rand.Rand, depth, places, open, dowsers int) api.DowseBook {
	b := api.DowseBook{Depth: 1 + r.Intn(depth), Dowsers: r.Intn(dowsers + 1), Pence: r.Intn(api.MaxDowsePence + 1)}
	if r.Intn(3) == 0 {
		b.Pence = r.Intn(12)
	}
	for range r.Intn(places + 1) {
		b.Found = append(b.Found, 1+r.Intn(b.Depth))
	}
	for _, place := range r.Perm(len(b.Found))[:r.Intn(min(open, len(b.Found))+1)] {
		b.Found[place] = api.DowseNot
	}
	often := 1 + r.Intn(6)
	for dowser := range b.Dowsers {
		for place := range b.Found {
			if r.Intn(6) < often {
				b.Sayings = append(b.Sayings, someSaying(r, dowser, place, b.Depth))
			}
		}
	}
	return b
}

// eachSmall calls a function with many books with few truths, and all of them.
func eachSmall(seed int64, call func(b api.DowseBook, all [][]int)) {
	r := rand.New(rand.NewSource(seed))
	for _, b := range plain() {
		call(b, truths(b))
	}
	for range 1000 {
		b := someBook(r, 5, api.MaxDowsePlaces, 3, api.MaxDowsers)
		call(b, truths(b))
	}
	for range 300 {
		b := someBook(r, api.MaxDowseDepth, 3, 2, 3)
		call(b, truths(b))
	}
}

// eachBig calls a function with many books of any size.
func eachBig(seed int64, many int, call func(r *rand.Rand, b api.DowseBook)) {
	r := rand.New(rand.NewSource(seed))
	for _, b := range append(plain(), widest()) {
		call(r, b)
	}
	for range many {
		call(r, someBook(r, api.MaxDowseDepth, api.MaxDowsePlaces, api.MaxDowsePlaces, api.MaxDowsers))
	}
}

// scoreOf, betweenOf, leadOf, chanceIn and paidBy return results of books that
// are valid.
func scoreOf(b api.DowseBook, dowser int) int {
	score, _ := dowsers.Score(b, dowser)
	return score
}

func betweenOf(b api.DowseBook, dowser int) api.Span {
	s, _ := dowsers.Between(b, dowser)
	return s
}

func leadOf(b api.DowseBook, dowser int) int {
	l, _ := dowsers.Leads(b, dowser)
	return l
}

func chanceIn(b api.DowseBook, dowser int) *big.Rat {
	c, _ := dowsers.Chance(b, dowser)
	return big.NewRat(int64(c.Num), int64(max(c.Den, 1)))
}

func paidBy(b api.DowseBook) []int {
	paid, _ := dowsers.Pay(b)
	return paid
}
