package hours_test

import (
	"math"
	"math/rand"
	"slices"

	"steening/api"
	"steening/hours"
)

func list(l ...int) []int { return l }

func span(low, high int) api.Span { return api.Span{Low: low, High: high} }

func pair(a, b int) api.HourPair { return api.HourPair{A: a, B: b} }

func street(has, from, to, cost int) api.HourStreet {
	return api.HourStreet{Has: has, From: from, To: to, Cost: cost}
}

func roster(room []int, streets ...api.HourStreet) api.HourRoster {
	return api.HourRoster{Room: room, Streets: streets}
}

// rosterR and rosterQ are the rosters R and Q of the chapter's examples.
func rosterR() api.HourRoster {
	return roster(list(1, 2, 1, 1), street(0, 0, 2, 2), street(0, 0, 1, 3), street(1, 0, 3, 1), street(2, 1, 2, 2))
}

func rosterQ() api.HourRoster {
	return with(rosterR(), func(r *api.HourRoster) { r.Room[0] = 0 })
}

// same6 returns 6 streets that are all alike.
func same6(s api.HourStreet) []api.HourStreet {
	return slices.Repeat([]api.HourStreet{s}, 6)
}

// widest returns the roster with the greatest numbers of all.
func widest() api.HourRoster {
	return roster(slices.Repeat(list(6), 8), same6(street(7, 0, 7, 9))...)
}

// tight returns a roster in which all must go to the other end of the day.
func tight() api.HourRoster {
	return roster(list(0, 0, 0, 0, 0, 0, 0, 6), same6(street(0, 0, 7, 9))...)
}

// plain returns some rosters at the ends of what can be.
func plain() []api.HourRoster {
	return []api.HourRoster{
		{},
		roster(list(0)),
		roster(list(6)),
		roster(slices.Repeat(list(6), 8)),
		roster(list(0), street(0, 0, 0, 0)),
		roster(list(1), street(0, 0, 0, 9)),
		roster(list(1), street(-1, 0, 0, 9)),
		roster(list(5), same6(street(0, 0, 0, 9))...),
		roster(list(6), same6(street(-1, 0, 0, 0))...),
		roster(list(1, 1), street(0, 1, 1, 9), street(1, 0, 0, 9)),
		roster(list(1, 1), street(0, 0, 1, 0), street(0, 0, 1, 0)),
		roster(list(1, 1, 1, 1, 1, 1), same6(street(2, 0, 5, 1))...),
		widest(),
		tight(),
		rosterR(),
		rosterQ(),
	}
}

// clone returns a roster that shares no memory with another one.
func clone(r api.HourRoster) api.HourRoster {
	return api.HourRoster{Room: slices.Clone(r.Room), Streets: slices.Clone(r.Streets)}
}

// same reports whether two rosters are the same.
func same(a, b api.HourRoster) bool {
	return slices.Equal(a.Room, b.Room) && slices.Equal(a.Streets, b.Streets)
}

// with returns a roster in which something is changed.
func with(r api.HourRoster, change func(r *api.HourRoster)) api.HourRoster {
	r = clone(r)
	change(&r)
	return r
}

// withRoom returns a roster with so much more room in an hour.
func withRoom(r api.HourRoster, hour, more int) api.HourRoster {
	return with(r, func(r *api.HourRoster) { r.Room[hour] += more })
}

// without returns a roster without a street.
func without(r api.HourRoster, street int) api.HourRoster {
	return with(r, func(r *api.HourRoster) { r.Streets = slices.Delete(r.Streets, street, street+1) })
}

// fits reports whether in no hour more streets draw than it has room for.
func fits(r api.HourRoster, l []int) bool {
	for hour, room := range r.Room {
		draw := 0
		for _, h := range l {
			if h == hour {
				draw++
			}
		}
		if draw > room {
			return false
		}
	}
	return true
}

// newOf returns all new rosters, the one that comes first of all ahead: each
// list of hours that the streets can have is tried.
func newOf(r api.HourRoster) [][]int {
	all := [][]int{nil}
	for _, s := range r.Streets {
		var longer [][]int
		for _, l := range all {
			for hour := s.From; hour <= s.To; hour++ {
				if more := append(slices.Clone(l), hour); fits(r, more) {
					longer = append(longer, more)
				}
			}
		}
		all = longer
	}
	return all
}

// movesOf returns by how many hours each street is moved in a new roster.
func movesOf(r api.HourRoster, l []int) []int {
	var moves []int
	for n, s := range r.Streets {
		switch {
		case s.Has < 0:
			moves = append(moves, 0)
		case s.Has < l[n]:
			moves = append(moves, l[n]-s.Has)
		default:
			moves = append(moves, s.Has-l[n])
		}
	}
	return moves
}

// price returns what a new roster costs.
func price(r api.HourRoster, l []int) int {
	all := 0
	for n, move := range movesOf(r, l) {
		all += move * r.Streets[n].Cost
	}
	return all
}

// farthest returns by how many hours a street is moved at the most.
func farthest(r api.HourRoster, l []int) int {
	return slices.Max(append(movesOf(r, l), 0))
}

// moved returns how many streets are moved.
func moved(r api.HourRoster, l []int) int {
	many := 0
	for _, move := range movesOf(r, l) {
		if move != 0 {
			many++
		}
	}
	return many
}

// bests returns those of some new rosters for which a measure is the least one,
// and this measure.
func bests(r api.HourRoster, all [][]int, measure func(r api.HourRoster, l []int) int) ([][]int, int) {
	least := math.MaxInt
	for _, l := range all {
		least = min(least, measure(r, l))
	}
	var best [][]int
	for _, l := range all {
		if measure(r, l) == least {
			best = append(best, l)
		}
	}
	return best, least
}

// lacking returns all spans of hours that lack room, those with the least High
// first, and of these those with the greatest Low.
func lacking(r api.HourRoster) []api.Span {
	var spans []api.Span
	for low := range r.Room {
		room := 0
		for high := low; high < len(r.Room); high++ {
			room += r.Room[high]
			need := 0
			for _, s := range r.Streets {
				if low <= s.From && s.To <= high {
					need++
				}
			}
			if need > room {
				spans = append(spans, span(low, high))
			}
		}
	}
	slices.SortFunc(spans, func(a, b api.Span) int {
		if a.High != b.High {
			return a.High - b.High
		}
		return b.Low - a.Low
	})
	return spans
}

// someStreet returns a random street of a day of so many hours.
func someStreet(r *rand.Rand, day int) api.HourStreet {
	from := r.Intn(day)
	to := min(day-1, from+r.Intn(5))
	has := r.Intn(day)
	if r.Intn(3) > 0 {
		has = from + r.Intn(to-from+1)
	}
	if r.Intn(8) == 0 {
		has = api.HourNone
	}
	return street(has, from, to, r.Intn(1+r.Intn(10)))
}

// someRoster returns a random roster. In most of them there is just the room for
// all streets, and little more.
func someRoster(r *rand.Rand) api.HourRoster {
	some := roster(make([]int, r.Intn(api.MaxHours+1)))
	day := len(some.Room)
	for range max(r.Intn(api.MaxHourStreets+1), r.Intn(api.MaxHourStreets+1)) {
		if day > 0 {
			some.Streets = append(some.Streets, someStreet(r, day))
		}
	}
	kind := r.Intn(4)
	for _, s := range some.Streets {
		if kind > 0 {
			some.Room[s.From+r.Intn(s.To-s.From+1)]++
		}
	}
	for hour, room := range some.Room {
		some.Room[hour] = min(api.MaxHourStreets, room+r.Intn(1+r.Intn(3)))
		if r.Intn(10) == 0 {
			some.Room[hour] = r.Intn(api.MaxHourStreets + 1)
		}
	}
	return some
}

// eachRoster calls a function with many rosters.
func eachRoster(seed int64, many int, call func(r *rand.Rand, h api.HourRoster)) {
	r := rand.New(rand.NewSource(seed))
	for _, h := range plain() {
		call(r, h)
	}
	for range many {
		call(r, someRoster(r))
	}
}

// eachNew calls a function with many rosters of which there are new ones, and
// with all of these. It returns of how many there were none.
func eachNew(seed int64, many int, call func(r *rand.Rand, h api.HourRoster, all [][]int)) (none int) {
	eachRoster(seed, many, func(r *rand.Rand, h api.HourRoster) {
		if all := newOf(h); len(all) > 0 {
			call(r, h, all)
		} else {
			none++
		}
	})
	return none
}

// leastOf, farOf, fewestOf, firstOf and fairOf return results of rosters of
// which there are new ones, and costOf that of a new roster.
func leastOf(r api.HourRoster) int {
	least, _ := hours.Least(r)
	return least
}

func farOf(r api.HourRoster) int {
	far, _ := hours.Far(r)
	return far
}

func fewestOf(r api.HourRoster) int {
	fewest, _ := hours.Fewest(r)
	return fewest
}

func firstOf(r api.HourRoster) []int {
	first, _ := hours.Roster(r)
	return first
}

func fairOf(r api.HourRoster) []int {
	fair, _ := hours.Fair(r)
	return fair
}

func costOf(r api.HourRoster, l []int) int {
	cost, _ := hours.Cost(r, l)
	return cost
}

func isGood(r api.HourRoster, l []int) bool {
	good, _ := hours.Good(r, l)
	return good
}

// anyNumber returns a random number, often one that is not valid.
func anyNumber(r *rand.Rand) int {
	some := list(math.MinInt, math.MinInt+1, -2, -1, 0, 5, 6, 7, 8, 9, 10, math.MaxInt-1, math.MaxInt)
	if r.Intn(3) > 0 {
		return r.Intn(4)
	}
	return some[r.Intn(len(some))]
}
