package dowsers_test

import (
	"math"
	"math/big"
	"math/rand"
	"slices"
	"testing"

	"steening/api"
	"steening/dowsers"
)

// invalid returns books that are not valid, each for one reason.
func invalid() map[string]api.DowseBook {
	list := map[string]api.DowseBook{
		"nothing":               {},
		"depth -1":              {Depth: -1},
		"depth 13":              {Depth: 13},
		"depth most":            {Depth: math.MaxInt},
		"7 places":              {Depth: 1, Found: make([]int, 7)},
		"a saying, nobody":      {Depth: 1, Found: []int{1}, Sayings: sayings(0, 0, 1, 1)},
		"a saying, nowhere":     {Depth: 1, Dowsers: 1, Sayings: sayings(0, 0, 1, 1)},
		"a saying, depth below": {Depth: 1, Found: []int{1}, Dowsers: 1, Sayings: sayings(0, 0, 1, 2)},
	}
	for name, change := range map[string]func(b *api.DowseBook){
		"found -1":       func(b *api.DowseBook) { b.Found[1] = -1 },
		"found 7":        func(b *api.DowseBook) { b.Found[2] = 7 },
		"found least":    func(b *api.DowseBook) { b.Found[0] = math.MinInt },
		"dowsers -1":     func(b *api.DowseBook) { b.Dowsers, b.Sayings = -1, nil },
		"dowsers 5":      func(b *api.DowseBook) { b.Dowsers = 5 },
		"dowsers most":   func(b *api.DowseBook) { b.Dowsers = math.MaxInt },
		"pence -1":       func(b *api.DowseBook) { b.Pence = -1 },
		"pence 1000":     func(b *api.DowseBook) { b.Pence = 1000 },
		"dowser -1":      func(b *api.DowseBook) { b.Sayings[0].Dowser = -1 },
		"dowser 2":       func(b *api.DowseBook) { b.Sayings[5].Dowser = 2 },
		"dowser most":    func(b *api.DowseBook) { b.Sayings[5].Dowser = math.MaxInt },
		"place -1":       func(b *api.DowseBook) { b.Sayings[0].Place = -1 },
		"place 3":        func(b *api.DowseBook) { b.Sayings[2].Place = 3 },
		"place least":    func(b *api.DowseBook) { b.Sayings[0].Place = math.MinInt },
		"low 0":          func(b *api.DowseBook) { b.Sayings[0].Low = 0 },
		"low least":      func(b *api.DowseBook) { b.Sayings[1].Low = math.MinInt },
		"high below":     func(b *api.DowseBook) { b.Sayings[3].High = 2 },
		"high 7":         func(b *api.DowseBook) { b.Sayings[4].High = 7 },
		"high most":      func(b *api.DowseBook) { b.Sayings[4].High = math.MaxInt },
		"both above":     func(b *api.DowseBook) { b.Sayings[5].Low, b.Sayings[5].High = 7, 7 },
		"twice":          func(b *api.DowseBook) { b.Sayings[1].Place = 0 },
		"the last twice": func(b *api.DowseBook) { b.Sayings = append(b.Sayings, b.Sayings[5]) },
		"dowser order":   func(b *api.DowseBook) { b.Sayings[0], b.Sayings[3] = b.Sayings[3], b.Sayings[0] },
		"place order":    func(b *api.DowseBook) { b.Sayings[1], b.Sayings[2] = b.Sayings[2], b.Sayings[1] },
		"one apart":      func(b *api.DowseBook) { b.Sayings = append(b.Sayings[1:], b.Sayings[0]) },
	} {
		b := bookB()
		change(&b)
		list[name] = b
	}
	return list
}

// asked is what the functions are asked for.
type asked struct {
	saying, dowser, width, hundredths int
}

// errors returns what each function but Check returns as an error, and reports
// whether each other result is its zero value.
func errors(b api.DowseBook, a asked) (e []api.Errno, zero bool) {
	h, e1 := dowsers.Hit(b, a.saying)
	p, e2 := dowsers.Points(b, a.saying)
	s, e3 := dowsers.Score(b, a.dowser)
	o, e4 := dowsers.Order(b)
	w, e5 := dowsers.Between(b, a.dowser)
	l, e6 := dowsers.Leads(b, a.dowser)
	t, e7 := dowsers.Settles(b)
	c, e8 := dowsers.Chance(b, a.dowser)
	y, e9 := dowsers.Shows(b, a.dowser, a.hundredths)
	m, e10 := dowsers.More(b, a.dowser, a.width, a.hundredths)
	d, e11 := dowsers.Pay(b)
	zero = h|p|s|w.Low|w.High|l|t|c.Num|c.Den|m == 0 && !y && len(o)+len(d) == 0
	return []api.Errno{e1, e2, e3, e4, e5, e6, e7, e8, e9, e10, e11}, zero
}

func TestP4_1Check(t *testing.T) {
	for n, b := range append(plain(), widest()) {
		if e := dowsers.Check(b); e != api.OK {
			t.Errorf("%d: Check = %d", n, e)
		}
	}
	for name, b := range invalid() {
		if e := dowsers.Check(b); e != api.ErrDowse {
			t.Errorf("%s: Check = %d", name, e)
		}
		// ErrDowse is named first, whatever else is wrong.
		for _, n := range []int{0, 1, -1, 99, math.MaxInt} {
			list, zero := errors(b, asked{n, n, n, n})
			if slices.ContainsFunc(list, func(e api.Errno) bool { return e != api.ErrDowse }) || !zero {
				t.Errorf("%s: errors %v, zero %v", name, list, zero)
			}
		}
	}
}

func TestExamples(t *testing.T) {
	b := bookB()
	for saying, x := range []struct {
		hit, points int
		e           api.Errno
	}{{api.Surely, 4, 0}, {api.Perhaps, 0, api.ErrNone}, {api.Never, -2, 0}, {api.Surely, 5, 0}, {api.Perhaps, 0, api.ErrNone}, {api.Surely, 3, 0}} {
		h, e := dowsers.Hit(b, saying)
		p, f := dowsers.Points(b, saying)
		if h != x.hit || e != api.OK || p != x.points || f != x.e {
			t.Errorf("%d: Hit = %d, %d; Points = %d, %d", saying, h, e, p, f)
		}
	}
	for dowser, x := range []struct {
		score   int
		between api.Span
		leads   int
		chance  api.Ratio
	}{{2, api.Span{Low: 1, High: 7}, api.Never, api.Ratio{Num: 5, Den: 9}}, {8, api.Span{Low: 8, High: 8}, api.Surely, api.Ratio{Num: 1, Den: 12}}} {
		s, e1 := dowsers.Score(b, dowser)
		w, e2 := dowsers.Between(b, dowser)
		l, e3 := dowsers.Leads(b, dowser)
		c, e4 := dowsers.Chance(b, dowser)
		if s != x.score || w != x.between || l != x.leads || c != x.chance || e1|e2|e3|e4 != api.OK {
			t.Errorf("%d: Score = %d, %d; Between = %v, %d; Leads = %d, %d; Chance = %v, %d", dowser, s, e1, w, e2, l, e3, c, e4)
		}
	}
	o, e1 := dowsers.Order(b)
	s, e2 := dowsers.Settles(b)
	p, e3 := dowsers.Pay(b)
	if !slices.Equal(o, []int{1, 0}) || s != 1 || !slices.Equal(p, []int{2, 8}) || e1|e2|e3 != api.OK {
		t.Errorf("Order = %v, %d; Settles = %d, %d; Pay = %v, %d", o, e1, s, e2, p, e3)
	}
	for hundredths, want := range map[int]bool{8: false, 9: true} {
		if shows, e := dowsers.Shows(b, 1, hundredths); shows != want || e != api.OK {
			t.Errorf("Shows %d = %v, %d", hundredths, shows, e)
		}
	}
	for _, x := range []struct {
		dowser, width, hundredths, more int
		e                               api.Errno
	}{{0, 1, 10, 2, api.OK}, {0, 6, 10, 0, api.ErrMany}, {1, 1, 9, 0, api.OK}} {
		if more, e := dowsers.More(b, x.dowser, x.width, x.hundredths); more != x.more || e != x.e {
			t.Errorf("%v: More = %d, %d", x, more, e)
		}
	}
}

func TestP4_2HitP4_3Points(t *testing.T) {
	counts := make(map[int]int)
	eachBig(2, 500, func(_ *rand.Rand, b api.DowseBook) {
		for n, said := range b.Sayings {
			found, want, points, fails := b.Found[said.Place], api.Never, 0, api.OK
			switch {
			case found == api.DowseNot:
				want, fails = api.Perhaps, api.ErrNone
			case slices.Contains(depthsOf(said), found):
				want = api.Surely
			}
			if fails == api.OK {
				points = pointsIn(b, said, found)
			}
			counts[want]++
			if h, e := dowsers.Hit(b, n); h != want || e != api.OK {
				t.Errorf("Hit(%v, %d) = %d, %d, not %d", b, n, h, e, want)
			}
			if p, e := dowsers.Points(b, n); p != points || e != fails {
				t.Errorf("Points(%v, %d) = %d, %d, not %d", b, n, p, e, points)
			}
		}
		for _, n := range []int{-1, len(b.Sayings), math.MinInt, math.MaxInt} {
			h, e := dowsers.Hit(b, n)
			p, f := dowsers.Points(b, n)
			if h != 0 || p != 0 || e != api.ErrArg || f != api.ErrArg {
				t.Errorf("%v: Hit of %d = %d, %d; Points = %d, %d", b, n, h, e, p, f)
			}
		}
	})
	if counts[api.Surely] < 100 || counts[api.Never] < 100 || counts[api.Perhaps] < 100 {
		t.Errorf("not all was tried: %v", counts)
	}
}

// notOf returns numbers of dowsers that are not of a book.
func notOf(b api.DowseBook) []int {
	return []int{-1, b.Dowsers, api.MaxDowsers, math.MinInt, math.MaxInt}
}

func TestP4_4ScoreP4_5Order(t *testing.T) {
	equal := 0
	eachBig(4, 1000, func(_ *rand.Rand, b api.DowseBook) {
		scores := scoresIn(b, b.Found)
		for dowser, want := range scores {
			if score, e := dowsers.Score(b, dowser); score != want || e != api.OK {
				t.Errorf("Score(%v, %d) = %d, %d, not %d", b, dowser, score, e, want)
			}
		}
		for _, dowser := range notOf(b) {
			if score, e := dowsers.Score(b, dowser); score != 0 || e != api.ErrArg {
				t.Errorf("Score(%v, %d) = %d, %d", b, dowser, score, e)
			}
		}
		order, e := dowsers.Order(b)
		for n := 1; n < len(order); n++ {
			before, after := order[n-1], order[n]
			if scores[before] == scores[after] {
				equal++
			}
			if scores[before] < scores[after] || scores[before] == scores[after] && before >= after {
				t.Errorf("Order(%v) = %v, with the scores %v", b, order, scores)
			}
		}
		slices.Sort(order)
		if !slices.Equal(order, upward(b.Dowsers)) || e != api.OK {
			t.Errorf("Order(%v) has %v, %d", b, order, e)
		}
	})
	if equal < 100 {
		t.Errorf("only %d equal scores were tried", equal)
	}
}

// upward returns the numbers below another one in their order.
func upward(many int) []int {
	list := make([]int, many)
	for n := range list {
		list[n] = n
	}
	return list
}

// checkTruths checks P4.6 and P4.7 with all scores in the truths of a book, and
// counts what is known of who leads.
func checkTruths(t *testing.T, b api.DowseBook, scores [][]int, counts map[int]int) {
	for dowser := range b.Dowsers {
		want := api.Span{Low: math.MaxInt, High: math.MinInt}
		for _, each := range scores {
			want = api.Span{Low: min(want.Low, each[dowser]), High: max(want.High, each[dowser])}
		}
		if s, e := dowsers.Between(b, dowser); s != want || e != api.OK {
			t.Errorf("Between(%v, %d) = %v, %d, not %v", b, dowser, s, e, want)
		}
		leads := leadsOf(scores, dowser)
		counts[leads]++
		if l, e := dowsers.Leads(b, dowser); l != leads || e != api.OK {
			t.Errorf("Leads(%v, %d) = %d, %d, not %d", b, dowser, l, e, leads)
		}
	}
	for _, dowser := range notOf(b) {
		s, e := dowsers.Between(b, dowser)
		l, f := dowsers.Leads(b, dowser)
		if s != (api.Span{}) || l != 0 || e != api.ErrArg || f != api.ErrArg {
			t.Errorf("%v: Between of %d = %v, %d; Leads = %d, %d", b, dowser, s, e, l, f)
		}
	}
}

func TestP4_6BetweenP4_7Leads(t *testing.T) {
	counts := make(map[int]int)
	eachSmall(6, func(b api.DowseBook, all [][]int) {
		var scores [][]int
		for _, truth := range all {
			scores = append(scores, scoresIn(b, truth))
		}
		checkTruths(t, b, scores, counts)
	})
	if counts[api.Surely] < 100 || counts[api.Never] < 100 || counts[api.Perhaps] < 100 {
		t.Errorf("not all was tried: %v", counts)
	}
	clear(counts)
	eachBig(6, 300, func(_ *rand.Rand, b api.DowseBook) {
		checkTruths(t, b, truthScores(b), counts)
	})
	if counts[api.Surely] < 20 || counts[api.Never] < 20 || counts[api.Perhaps] < 100 {
		t.Errorf("not all was tried: %v", counts)
	}
	// Either of the others can have less than dowser 2, but not both.
	b := api.DowseBook{Depth: 6, Found: []int{0}, Dowsers: 3, Sayings: sayings(0, 0, 1, 3, 1, 0, 4, 6)}
	for dowser, want := range []int{api.Perhaps, api.Perhaps, api.Never} {
		if l, e := dowsers.Leads(b, dowser); l != want || e != api.OK {
			t.Errorf("Leads of %d = %d, %d", dowser, l, e)
		}
	}
}

func TestP4_8Settles(t *testing.T) {
	first, later, none, idle := 0, 0, 0, 0
	check := func(_ *rand.Rand, b api.DowseBook) {
		want := slices.IndexFunc(upward(len(b.Found)), func(place int) bool {
			return b.Found[place] == api.DowseNot && settlesAt(b, place)
		})
		place, e := dowsers.Settles(b)
		switch {
		case want == -1:
			none++
			if place != 0 || e != api.ErrNone {
				t.Errorf("Settles(%v) = %d, %d", b, place, e)
			}
			return
		case want == slices.Index(b.Found, api.DowseNot):
			first++
		default:
			later++
		}
		if place != want || e != api.OK {
			t.Errorf("Settles(%v) = %d, %d, not %d", b, place, e, want)
		}
		if !slices.ContainsFunc(b.Sayings, func(said api.DowseSaying) bool { return said.Place == want }) {
			idle++
		}
	}
	eachBig(8, 400, check)
	r := rand.New(rand.NewSource(88))
	for range 1500 {
		check(r, someBook(r, api.MaxDowseDepth, 4, 3, 3))
	}
	if first < 50 || later < 20 || none < 50 || idle < 20 {
		t.Errorf("not all was tried: %d, %d, %d, %d", first, later, none, idle)
	}
	// Without dowsers any place where nobody has dug settles all.
	if place, e := dowsers.Settles(api.DowseBook{Depth: 9, Found: []int{3, 0, 0}}); place != 1 || e != api.OK {
		t.Errorf("Settles = %d, %d", place, e)
	}
	if place, e := dowsers.Settles(api.DowseBook{Depth: 9, Found: []int{3}, Dowsers: 1}); place != 0 || e != api.ErrNone {
		t.Errorf("Settles = %d, %d", place, e)
	}
}

func TestP4_9ChanceP4_10Shows(t *testing.T) {
	shown, hidden, exact := 0, 0, 0
	eachBig(9, 600, func(r *rand.Rand, b api.DowseBook) {
		for dowser := range b.Dowsers {
			right, widths := rightAndWidths(b, dowser)
			want := chanceOf(b.Depth, right, widths)
			if c, e := dowsers.Chance(b, dowser); !isRatio(c, want) || e != api.OK {
				t.Errorf("Chance(%v, %d) = %v, %d, not %v", b, dowser, c, e, want)
			}
			for hundredths := 1; hundredths < 100; hundredths++ {
				order := want.Cmp(big.NewRat(int64(hundredths), 100))
				switch order {
				case -1:
					shown++
				case 0:
					exact++
				case 1:
					hidden++
				}
				if shows, e := dowsers.Shows(b, dowser, hundredths); shows != (order <= 0) || e != api.OK {
					t.Errorf("Shows(%v, %d, %d) = %v, %d; the chance is %v", b, dowser, hundredths, shows, e, want)
				}
			}
			for _, hundredths := range []int{0, 100, -1, math.MinInt, math.MaxInt} {
				if shows, e := dowsers.Shows(b, dowser, hundredths); shows || e != api.ErrArg {
					t.Errorf("Shows(%v, %d, %d) = %v, %d", b, dowser, hundredths, shows, e)
				}
			}
		}
		for _, dowser := range notOf(b) {
			c, e := dowsers.Chance(b, dowser)
			shows, f := dowsers.Shows(b, dowser, 99)
			if c != (api.Ratio{}) || shows || e != api.ErrArg || f != api.ErrArg {
				t.Errorf("%v: Chance of %d = %v, %d; Shows = %v, %d", b, dowser, c, e, shows, f)
			}
		}
	})
	if shown < 1000 || hidden < 1000 || exact < 20 {
		t.Errorf("not all was tried: %d, %d, %d", shown, hidden, exact)
	}
}

// moreOf returns how many further sayings of a width are needed, -1 if six are
// not enough.
func moreOf(b api.DowseBook, dowser, width, hundredths int) int {
	right, widths := rightAndWidths(b, dowser)
	for more := range api.MaxDowsePlaces + 1 {
		if chanceOf(b.Depth, right, widths).Cmp(big.NewRat(int64(hundredths), 100)) <= 0 {
			return more
		}
		right++
		widths = append(widths, width)
	}
	return -1
}

func TestP4_11More(t *testing.T) {
	counts := make(map[int]int)
	eachBig(11, 60, func(r *rand.Rand, b api.DowseBook) {
		for dowser := range b.Dowsers {
			for width := 1; width <= b.Depth; width += 1 + r.Intn(4) {
				hundredths := 1 + r.Intn(99)
				if r.Intn(2) == 0 {
					hundredths = 1 + r.Intn(5)
				}
				want, fails := moreOf(b, dowser, width, hundredths), api.OK
				counts[want]++
				if want == -1 {
					want, fails = 0, api.ErrMany
				}
				if more, e := dowsers.More(b, dowser, width, hundredths); more != want || e != fails {
					t.Errorf("More(%v, %d, %d, %d) = %d, %d, not %d", b, dowser, width, hundredths, more, e, want)
				}
			}
		}
		for _, dowser := range notOf(b) {
			if more, e := dowsers.More(b, dowser, 1, 1); more != 0 || e != api.ErrArg {
				t.Errorf("More(%v, %d, 1, 1) = %d, %d", b, dowser, more, e)
			}
		}
		if b.Dowsers == 0 {
			return
		}
		for _, n := range []int{0, -1, 100, math.MinInt, math.MaxInt} {
			if more, e := dowsers.More(b, 0, 1, n); more != 0 || e != api.ErrArg {
				t.Errorf("More(%v, 0, 1, %d) = %d, %d", b, n, more, e)
			}
		}
		for _, n := range []int{0, -1, b.Depth + 1, math.MinInt, math.MaxInt} {
			if more, e := dowsers.More(b, 0, n, 1); more != 0 || e != api.ErrArg {
				t.Errorf("More(%v, 0, %d, 1) = %d, %d", b, n, more, e)
			}
		}
	})
	for more := -1; more <= api.MaxDowsePlaces; more++ {
		if counts[more] == 0 {
			t.Errorf("not all was tried: %v", counts)
		}
	}
	// Six are enough though there is no place for one more.
	b := api.DowseBook{Depth: 2, Found: make([]int, 6), Dowsers: 1}
	if more, e := dowsers.More(b, 0, 1, 2); more != 6 || e != api.OK {
		t.Errorf("More = %d, %d", more, e)
	}
	if more, e := dowsers.More(b, 0, 1, 1); more != 0 || e != api.ErrMany {
		t.Errorf("More = %d, %d", more, e)
	}
}

func TestP4_12Pay(t *testing.T) {
	nothing := 0
	eachBig(12, 2000, func(_ *rand.Rand, b api.DowseBook) {
		want := payOf(b.Pence, scoresIn(b, b.Found))
		if !slices.ContainsFunc(want, func(n int) bool { return n > 0 }) {
			nothing++
		}
		if paid, e := dowsers.Pay(b); !slices.Equal(paid, want) || e != api.OK {
			t.Errorf("Pay(%v) = %v, %d, not %v", b, paid, e, want)
		}
	})
	// Of equal scores the first ones get the pence that are left.
	b := api.DowseBook{Depth: 2, Found: []int{1}, Dowsers: 4, Sayings: sayings(0, 0, 1, 1, 1, 0, 2, 2, 2, 0, 1, 1, 3, 0, 1, 1)}
	for pence, want := range map[int][]int{0: {0, 0, 0, 0}, 1: {1, 0, 0, 0}, 2: {1, 0, 1, 0}, 3: {1, 0, 1, 1}, 998: {333, 0, 333, 332}, 999: {333, 0, 333, 333}} {
		b.Pence = pence
		if paid, e := dowsers.Pay(b); !slices.Equal(paid, want) || e != api.OK {
			t.Errorf("Pay of %d = %v, %d", pence, paid, e)
		}
	}
	if nothing < 100 {
		t.Errorf("not all was tried: %d", nothing)
	}
}

func TestNilAndEmpty(t *testing.T) {
	for _, b := range []api.DowseBook{{Depth: 2}, {Depth: 2, Dowsers: 2, Pence: 9}} {
		other := clone(b)
		other.Found, other.Sayings = []int{}, []api.DowseSaying{}
		for _, a := range []asked{{0, 0, 1, 5}, {1, 1, 2, 99}, {-1, 2, 0, 0}} {
			one, _ := errors(b, a)
			two, _ := errors(other, a)
			if dowsers.Check(b) != dowsers.Check(other) || !slices.Equal(one, two) || !slices.Equal(paidBy(b), paidBy(other)) {
				t.Errorf("%v and %v are not the same: %v, %v", b, other, one, two)
			}
		}
	}
}

func TestMemory(t *testing.T) {
	b := bookB()
	before := clone(b)
	for range 2 {
		paid, _ := dowsers.Pay(b)
		order, _ := dowsers.Order(b)
		if !slices.Equal(paid, []int{2, 8}) || !slices.Equal(order, []int{1, 0}) {
			t.Errorf("Pay = %v, Order = %v", paid, order)
		}
		clear(paid)
		clear(order)
		errors(b, asked{0, 0, 1, 10})
		if !same(b, before) {
			t.Errorf("the book has changed: %v", b)
		}
	}
}

// anyNumber returns a number that may be far outside what is allowed.
func anyNumber(r *rand.Rand) int {
	switch r.Intn(12) {
	case 0:
		return math.MinInt
	case 1:
		return math.MaxInt
	}
	return r.Intn(16) - 2
}

func TestP1Dowsers(t *testing.T) {
	r := rand.New(rand.NewSource(1))
	for range 20000 {
		b := someBook(r, 4, 4, 3, api.MaxDowsers)
		if r.Intn(2) == 0 {
			b = api.DowseBook{Depth: anyNumber(r), Dowsers: anyNumber(r), Pence: anyNumber(r)}
			for range r.Intn(8) {
				b.Found = append(b.Found, anyNumber(r))
			}
		}
		for range r.Intn(3) {
			b.Sayings = append(b.Sayings, api.DowseSaying{Dowser: anyNumber(r), Place: anyNumber(r), Low: anyNumber(r), High: anyNumber(r)})
		}
		list, zero := errors(b, asked{anyNumber(r), anyNumber(r), anyNumber(r), anyNumber(r)})
		if e := dowsers.Check(b); e == api.ErrDowse && !zero || (e == api.ErrDowse) != (list[3] == api.ErrDowse) {
			t.Errorf("%v: Check = %d, errors %v, zero %v", b, e, list, zero)
		}
	}
	if list, _ := errors(widest(), asked{23, 3, 12, 1}); slices.Contains(list, api.ErrDowse) {
		t.Errorf("the widest book is refused: %v", list)
	}
}
