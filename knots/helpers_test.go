package knots_test

import (
	"math"
	"math/rand"
	"slices"

	"steening/api"
	"steening/knots"
)

func list(l ...int) []int { return l }

func span(low, high int) api.Span { return api.Span{Low: low, High: high} }

// cord returns clusters, by the Low and the High of one after the other.
func cord(ends ...int) []api.Span {
	var clusters []api.Span
	for n := 0; n < len(ends); n += 2 {
		clusters = append(clusters, span(ends[n], ends[n+1]))
	}
	return clusters
}

// knotted returns clusters that are clear.
func knotted(digits ...int) []api.Span {
	var clusters []api.Span
	for _, digit := range digits {
		clusters = append(clusters, span(digit, digit))
	}
	return clusters
}

// wide returns clusters that can have each digit of a base.
func wide(base, places int) []api.Span {
	return slices.Repeat(cord(0, base-1), places)
}

// book returns a book by its base, its top cord and all others.
func book(base int, top []api.Span, cords ...[]api.Span) api.KnotBook {
	return api.KnotBook{Base: base, Places: len(top), Cords: cords, Top: top}
}

// bookK and bookL are the books K and L of the chapter's examples.
func bookK() api.KnotBook {
	return book(10, cord(2, 2, 7, 8), cord(1, 1, 2, 3), cord(0, 1, 5, 5))
}

func bookL() api.KnotBook {
	return book(10, knotted(9), knotted(3), knotted(4))
}

// widest returns the book in which all is possible, with so many cords.
func widest(base, places, cords int) api.KnotBook {
	return book(base, wide(base, places), slices.Repeat([][]api.Span{wide(base, places)}, cords)...)
}

// plain returns some small books at the ends of what can be.
func plain() []api.KnotBook {
	return []api.KnotBook{
		bookK(),
		bookL(),
		book(2, knotted(0)),
		book(2, knotted(1)),
		book(10, cord(0, 9)),
		book(10, cord(2, 9, 0, 0)),
		book(2, wide(2, 4)),
		widest(2, 1, 1),
		widest(2, 1, 4),
		widest(2, 2, 3),
		widest(10, 1, 2),
		widest(10, 1, 3),
		widest(7, 2, 1),
		book(10, knotted(9), knotted(9)),
		book(10, knotted(9), knotted(8)),
		book(10, knotted(0), knotted(9), knotted(1)),
		book(10, knotted(1, 0), knotted(0, 9), knotted(0, 1)),
		book(10, knotted(9, 9, 9, 9), knotted(2, 4, 9, 9), knotted(2, 5, 0, 0), knotted(2, 5, 0, 0), knotted(2, 5, 0, 0)),
		book(10, knotted(9, 9, 9, 9), knotted(9, 9, 9, 9), knotted(9, 9, 9, 9), knotted(9, 9, 9, 9), knotted(9, 9, 9, 9)),
		book(10, knotted(0, 0, 3, 6), knotted(0, 0, 0, 9), knotted(0, 0, 0, 9), knotted(0, 0, 0, 9), knotted(0, 0, 0, 9)),
		book(2, knotted(1, 0, 0), knotted(0, 0, 1), knotted(0, 0, 1), knotted(0, 0, 1), knotted(0, 0, 1)),
		book(2, cord(0, 1, 0, 1, 0, 0), knotted(0, 1, 1), knotted(0, 1, 1), knotted(0, 0, 1), knotted(0, 0, 1)),
		book(3, knotted(0, 0), cord(0, 2, 0, 2), cord(0, 2, 0, 2)),
		book(3, knotted(2, 2), cord(0, 2, 0, 2), cord(0, 2, 0, 2)),
	}
}

// clone returns a book that shares no memory with another one.
func clone(b api.KnotBook) api.KnotBook {
	b.Top = slices.Clone(b.Top)
	b.Cords = slices.Clone(b.Cords)
	for n, c := range b.Cords {
		b.Cords[n] = slices.Clone(c)
	}
	return b
}

// same reports whether two books are the same.
func same(a, b api.KnotBook) bool {
	return a.Base == b.Base && a.Places == b.Places && slices.Equal(a.Top, b.Top) && slices.EqualFunc(a.Cords, b.Cords, slices.Equal)
}

// with returns a book in which something is changed.
func with(b api.KnotBook, change func(b *api.KnotBook)) api.KnotBook {
	b = clone(b)
	change(&b)
	return b
}

// at returns a cluster of a book.
func at(b *api.KnotBook, cord, place int) *api.Span {
	if cord == len(b.Cords) {
		return &b.Top[place]
	}
	return &b.Cords[cord][place]
}

// withSpan returns a book in which a cluster has another span.
func withSpan(b api.KnotBook, cord, place int, s api.Span) api.KnotBook {
	return with(b, func(b *api.KnotBook) { *at(b, cord, place) = s })
}

// eachCluster calls a function with each cluster of a book.
func eachCluster(b api.KnotBook, call func(cord, place int, s api.Span)) {
	for cord := range len(b.Cords) + 1 {
		for place := range b.Places {
			call(cord, place, *at(&b, cord, place))
		}
	}
}

// allDigits returns the digits of each number, the least one first, by counting.
func allDigits(base, places int) [][]int {
	digits := make([]int, places)
	var all [][]int
	for {
		all = append(all, slices.Clone(digits))
		place := places - 1
		for place >= 0 && digits[place] == base-1 {
			digits[place] = 0
			place--
		}
		if place < 0 {
			return all
		}
		digits[place]++
	}
}

// isFrom reports whether each digit is from Low to High of its cluster.
func isFrom(digits []int, clusters []api.Span) bool {
	for place, s := range clusters {
		if digits[place] < s.Low || digits[place] > s.High {
			return false
		}
	}
	return true
}

// readings returns all right readings, each by the numbers of all cords, the top
// one being the last one: all numbers that the cords can have are tried.
func readings(b api.KnotBook) [][]int {
	digits := allDigits(b.Base, b.Places)
	sofar := [][]int{{0}}
	for _, clusters := range b.Cords {
		var all [][]int
		for number := range digits {
			if !isFrom(digits[number], clusters) {
				continue
			}
			for _, before := range sofar {
				// The sum is the last number all the time.
				last := len(before) - 1
				if sum := before[last] + number; sum < len(digits) {
					all = append(all, append(slices.Clone(before[:last]), number, sum))
				}
			}
		}
		sofar = all
	}
	return slices.DeleteFunc(sofar, func(numbers []int) bool {
		return !isFrom(digits[numbers[len(numbers)-1]], b.Top)
	})
}

// digitIn returns the digit that a number has at a place.
func digitIn(b api.KnotBook, number, place int) int {
	for range b.Places - 1 - place {
		number /= b.Base
	}
	return number % b.Base
}

// carryIn returns what is carried from a place in a right reading: by how much
// the parts of the numbers from this place on are together more than the one of
// their sum.
func carryIn(b api.KnotBook, numbers []int, place int) int {
	unit := 1
	for range b.Places - place {
		unit *= b.Base
	}
	parts, last := 0, len(numbers)-1
	for _, number := range numbers[:last] {
		parts += number % unit
	}
	return (parts - numbers[last]%unit) / unit
}

// amongOf returns the least and the greatest one of a number of right readings,
// if there are any.
func amongOf(all [][]int, of func(numbers []int) int) (among api.Span, is bool) {
	among = span(math.MaxInt, math.MinInt)
	for _, numbers := range all {
		among = span(min(among.Low, of(numbers)), max(among.High, of(numbers)))
	}
	if len(all) == 0 {
		return span(0, 0), false
	}
	return among, true
}

// worstOf returns the greatest number of right readings that have the same digit
// at a cluster.
func worstOf(b api.KnotBook, all [][]int, cord, place int) int {
	many := make([]int, b.Base)
	for _, numbers := range all {
		many[digitIn(b, numbers[cord], place)]++
	}
	return slices.Max(many)
}

// far is more knots than any book can have.
const far = 100000

// knotsOf returns for each number how many knots are tied and untied so that a
// cord has it.
func knotsOf(b api.KnotBook, cord int) []int {
	var knots []int
	for _, digits := range allDigits(b.Base, b.Places) {
		sum := 0
		for place, digit := range digits {
			s := *at(&b, cord, place)
			for ; digit < s.Low; digit++ {
				sum++
			}
			for ; digit > s.High; digit-- {
				sum++
			}
		}
		knots = append(knots, sum)
	}
	return knots
}

// allKnots returns knotsOf of each cord.
func allKnots(b api.KnotBook) [][]int {
	var all [][]int
	for cord := range len(b.Cords) + 1 {
		all = append(all, knotsOf(b, cord))
	}
	return all
}

// fewestOf returns the fewest knots by which all cords together are the top cord,
// if each cord is tied otherwise by so many for each number: all sums are tried.
func fewestOf(knots [][]int) int {
	last := len(knots) - 1
	many := len(knots[last])
	sums := slices.Repeat(list(far), many)
	sums[0] = 0
	for _, one := range knots[:last] {
		next := slices.Repeat(list(far), many)
		for sum, before := range sums {
			if before == far {
				continue
			}
			for number, more := range one[:many-sum] {
				next[sum+number] = min(next[sum+number], before+more)
			}
		}
		sums = next
	}
	fewest := far
	for number, more := range knots[last] {
		fewest = min(fewest, sums[number]+more)
	}
	return fewest
}

// blameOf returns the cords that are to blame: each is tied otherwise by force.
func blameOf(b api.KnotBook) []int {
	var blame []int
	knots := allKnots(b)
	fewest := fewestOf(knots)
	for cord := range knots {
		forced := slices.Clone(knots)
		forced[cord] = slices.Clone(knots[cord])
		for number, many := range forced[cord] {
			if many == 0 {
				forced[cord][number] = far
			}
		}
		if fewestOf(forced) == fewest {
			blame = append(blame, cord)
		}
	}
	return blame
}

// manyOf returns the number of right readings, by the sums of numbers.
func manyOf(b api.KnotBook) int {
	digits := allDigits(b.Base, b.Places)
	ways := make([]int, len(digits))
	ways[0] = 1
	for _, clusters := range b.Cords {
		next := make([]int, len(digits))
		for number := range digits {
			if isFrom(digits[number], clusters) {
				for sum, many := range ways[:len(ways)-number] {
					next[sum+number] += many
				}
			}
		}
		ways = next
	}
	all := 0
	for number, many := range ways {
		if isFrom(digits[number], b.Top) {
			all += many
		}
	}
	return all
}

// tries returns how many numbers of all cords but the top one are tried.
func tries(b api.KnotBook) int {
	many := 1
	for _, clusters := range b.Cords {
		for _, s := range clusters {
			many *= s.High - s.Low + 1
		}
	}
	return many
}

// about returns a random span about a digit, by how clear the knots of a book are.
func about(r *rand.Rand, base, digit, clear int) api.Span {
	low, high := digit, digit
	for r.Intn(clear) == 0 {
		low = max(0, low-r.Intn(3))
		high = min(base-1, high+r.Intn(3))
	}
	return span(low, high)
}

// someNumbers returns random numbers of so many cords, and their sum, which is
// less than an end.
func someNumbers(r *rand.Rand, cords, end int) []int {
	var numbers []int
	left := end - 1
	for range cords {
		number := r.Intn(left + 1)
		if r.Intn(2) == 0 {
			number = r.Intn(left/(cords+1) + 1)
		}
		numbers = append(numbers, number)
		left -= number
	}
	return append(numbers, end-1-left)
}

// sizeOf returns how many numbers have digits.
func sizeOf(base, places int) int {
	size := 1
	for range places {
		size *= base
	}
	return size
}

// someBook returns a random book with at most so many numbers. Most often it has
// a right reading, and often some knots are wrong.
func someBook(r *rand.Rand, most int) api.KnotBook {
	b := api.KnotBook{Base: api.MinKnotBase + r.Intn(9), Places: 1 + r.Intn(4)}
	for sizeOf(b.Base, b.Places) > most {
		b.Base, b.Places = api.MinKnotBase+r.Intn(9), 1+r.Intn(4)
	}
	digits := allDigits(b.Base, b.Places)
	numbers := someNumbers(r, max(r.Intn(api.MaxKnotCords+1), r.Intn(4)), len(digits))
	clear, wrong := 2+r.Intn(2), r.Intn(2) == 0
	for n, number := range numbers {
		var clusters []api.Span
		for _, digit := range digits[number] {
			if wrong && r.Intn(4) == 0 {
				digit = r.Intn(b.Base)
			}
			clusters = append(clusters, about(r, b.Base, digit, clear))
		}
		if n < len(numbers)-1 {
			b.Cords = append(b.Cords, clusters)
		} else {
			b.Top = clusters
		}
	}
	if r.Intn(4) == 0 {
		b.Top = wide(b.Base, b.Places)
	}
	return b
}

// smallBook returns a random book of which all readings can be tried.
func smallBook(r *rand.Rand) api.KnotBook {
	for {
		if b := someBook(r, 1000); tries(b) <= 1000 {
			return b
		}
	}
}

// eachBook calls a function with many small books.
func eachBook(seed int64, many int, call func(r *rand.Rand, b api.KnotBook)) {
	r := rand.New(rand.NewSource(seed))
	for _, b := range plain() {
		call(r, b)
	}
	for range many {
		call(r, smallBook(r))
	}
}

// manyIn, sureOf, clusterOf, carryOf and retieOf return results of a valid book.
func manyIn(b api.KnotBook) int {
	many, _ := knots.Many(b)
	return many
}

func sureOf(b api.KnotBook, cord int) api.Span {
	sure, _ := knots.Sure(b, cord)
	return sure
}

func clusterOf(b api.KnotBook, cord, place int) api.Span {
	digits, _ := knots.Cluster(b, cord, place)
	return digits
}

func carryOf(b api.KnotBook, place int) api.Span {
	carry, _ := knots.Carry(b, place)
	return carry
}

func retieOf(b api.KnotBook) int {
	fewest, _ := knots.Retie(b)
	return fewest
}

// anyNumber returns a random number, often one that is not valid.
func anyNumber(r *rand.Rand) int {
	some := list(math.MinInt, math.MinInt+1, -2, -1, 4, 5, 9, 10, 11, 99, 100, 9999, 10000, math.MaxInt-1, math.MaxInt)
	if r.Intn(3) > 0 {
		return r.Intn(5)
	}
	return some[r.Intn(len(some))]
}
