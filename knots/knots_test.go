package knots_test

import (
	"math"
	"math/rand"
	"slices"
	"testing"

	"steening/api"
	"steening/knots"
)

// invalid returns books that are not valid, each for one reason.
func invalid() map[string]api.KnotBook {
	books := map[string]api.KnotBook{
		"nothing":            {},
		"no places":          {Base: 10},
		"no places, a cord":  {Base: 10, Cords: [][]api.Span{nil}},
		"base 1":             book(1, knotted(0, 0), knotted(0, 0)),
		"base 0":             book(0, knotted(0, 0)),
		"base 11":            book(11, knotted(0, 0), knotted(0, 0)),
		"base 11, a 10":      book(11, knotted(10)),
		"base -2":            book(-2, knotted(0)),
		"5 places":           book(10, knotted(0, 0, 0, 0, 0), knotted(0, 0, 0, 0, 0)),
		"5 cords":            book(10, knotted(0), knotted(0), knotted(0), knotted(0), knotted(0), knotted(0)),
		"many cords":         book(10, knotted(0), slices.Repeat([][]api.Span{knotted(0)}, 1000)...),
		"many places":        book(10, slices.Repeat(knotted(0), 1000)),
		"no top":             {Base: 10, Places: 1, Cords: [][]api.Span{knotted(1)}},
		"a cord of nothing":  book(10, knotted(1, 1), knotted(1, 1), nil),
		"a cord too short":   book(10, knotted(1, 1), knotted(1), knotted(1, 1)),
		"a cord too long":    book(10, knotted(1, 1), knotted(1, 1), knotted(1, 1, 0)),
		"the top too short":  {Base: 10, Places: 2, Cords: [][]api.Span{knotted(1, 1)}, Top: knotted(1)},
		"the top too long":   {Base: 10, Places: 2, Cords: [][]api.Span{knotted(1, 1)}, Top: knotted(1, 1, 1)},
		"a 2 of base 2":      book(2, knotted(1, 1), knotted(0, 2)),
		"a 2 at the top":     book(2, knotted(2, 1), knotted(0, 1)),
		"up to 5 of base 5":  book(5, cord(0, 4), cord(0, 5)),
		"all of 10 in the 9": book(9, cord(0, 9)),
	}
	for name, n := range map[string]func(b *api.KnotBook) *int{
		"base":       func(b *api.KnotBook) *int { return &b.Base },
		"places":     func(b *api.KnotBook) *int { return &b.Places },
		"first low":  func(b *api.KnotBook) *int { return &b.Cords[0][0].Low },
		"last high":  func(b *api.KnotBook) *int { return &b.Cords[1][1].High },
		"top's low":  func(b *api.KnotBook) *int { return &b.Top[1].Low },
		"top's high": func(b *api.KnotBook) *int { return &b.Top[0].High },
	} {
		for what, bad := range map[string]int{"-1": -1, "least": math.MinInt, "11": 11, "most": math.MaxInt} {
			books[name+" "+what] = with(bookK(), func(b *api.KnotBook) { *n(b) = bad })
		}
	}
	for n, bad := range []api.Span{span(-1, -1), span(1, 0), span(10, 10), span(0, 10), span(-1, 9), span(9, 8), span(math.MinInt, math.MinInt), span(math.MinInt, math.MaxInt), span(math.MaxInt, math.MaxInt), span(math.MaxInt, math.MinInt)} {
		eachCluster(bookK(), func(cord, place int, _ api.Span) {
			books["cluster "+string(rune('a'+n))+string(rune('0'+cord))+string(rune('0'+place))] = withSpan(bookK(), cord, place, bad)
		})
	}
	return books
}

// asked is what the functions are asked for.
type asked struct {
	number, cord, place int
	digits              []int
	reading             [][]int
}

// errors returns what each function but Check returns as an error, and reports
// whether each result beside an error is its zero value.
func errors(b api.KnotBook, a asked) (list []api.Errno, zero bool) {
	zero = true
	add := func(e api.Errno, isZero bool) {
		list = append(list, e)
		zero = zero && (e == api.OK || isZero)
	}
	digits, e := knots.Tie(b, a.number)
	add(e, len(digits) == 0)
	number, e := knots.Read(b, a.digits)
	add(e, number == 0)
	numbers, e := knots.Cord(b, a.cord)
	add(e, numbers == api.Span{})
	right, e := knots.Right(b, a.reading)
	add(e, !right)
	many, e := knots.Many(b)
	add(e, many == 0)
	sure, e := knots.Sure(b, a.cord)
	add(e, sure == api.Span{})
	cluster, e := knots.Cluster(b, a.cord, a.place)
	add(e, cluster == api.Span{})
	carry, e := knots.Carry(b, a.place)
	add(e, carry == api.Span{})
	cord, place, e := knots.Ask(b)
	add(e, cord == 0 && place == 0)
	fewest, e := knots.Retie(b)
	add(e, fewest == 0)
	blame, e := knots.Blame(b)
	add(e, len(blame) == 0)
	return list, zero
}

// areAll reports whether all errors are the same one.
func areAll(list []api.Errno, e api.Errno) bool {
	return !slices.ContainsFunc(list, func(other api.Errno) bool { return other != e })
}

func TestP11_1Check(t *testing.T) {
	for n, b := range plain() {
		if e := knots.Check(b); e != api.OK {
			t.Errorf("%d: Check = %d", n, e)
		}
	}
	for base := api.MinKnotBase; base <= api.MaxKnotBase; base++ {
		for places := 1; places <= api.MaxKnotPlaces; places++ {
			for cords := range api.MaxKnotCords + 1 {
				if e := knots.Check(widest(base, places, cords)); e != api.OK {
					t.Errorf("base %d, %d places, %d cords: Check = %d", base, places, cords, e)
				}
			}
		}
	}
	for name, b := range invalid() {
		if e := knots.Check(b); e != api.ErrKnot {
			t.Errorf("%s: Check = %d", name, e)
		}
		// ErrKnot is named first, whatever else is wrong.
		for _, n := range list(0, 1, -1, 4, 5, 10, math.MinInt, math.MaxInt) {
			for _, l := range [][]int{nil, list(n), list(1, 3), slices.Repeat(list(n), 800)} {
				list, zero := errors(b, asked{n, n, n, l, slices.Repeat([][]int{l}, 3)})
				if !areAll(list, api.ErrKnot) || !zero {
					t.Errorf("%s: %d, %v: errors %v, zero %v", name, n, l, list, zero)
				}
			}
		}
	}
}

func TestErrors(t *testing.T) {
	right := [][]int{list(1, 2), list(1, 5), list(2, 7)}
	for name, x := range map[string]struct {
		b    api.KnotBook
		a    asked
		want []api.Errno
	}{
		"K":               {bookK(), asked{0, 0, 0, list(0, 0), right}, []api.Errno{0, 0, 0, 0, 0, 0, 0, 0, 0, 0, 3}},
		"K, last":         {bookK(), asked{99, 2, 1, list(9, 9), nil}, []api.Errno{0, 0, 0, 0, 0, 0, 0, 0, 0, 0, 3}},
		"K, behind":       {bookK(), asked{100, 3, 2, list(9, 10), nil}, []api.Errno{1, 1, 1, 0, 0, 1, 1, 1, 0, 0, 3}},
		"K, before":       {bookK(), asked{-1, -1, -1, list(-1, 9), nil}, []api.Errno{1, 1, 1, 0, 0, 1, 1, 1, 0, 0, 3}},
		"K, the least":    {bookK(), asked{math.MinInt, math.MinInt, math.MinInt, list(math.MinInt, 0), nil}, []api.Errno{1, 1, 1, 0, 0, 1, 1, 1, 0, 0, 3}},
		"K, the most":     {bookK(), asked{math.MaxInt, math.MaxInt, math.MaxInt, list(0, math.MaxInt), nil}, []api.Errno{1, 1, 1, 0, 0, 1, 1, 1, 0, 0, 3}},
		"K, no place":     {bookK(), asked{7, 2, 2, list(0), nil}, []api.Errno{0, 1, 0, 0, 0, 0, 1, 1, 0, 0, 3}},
		"K, no cord":      {bookK(), asked{7, 3, 1, list(0, 0, 7), nil}, []api.Errno{0, 1, 1, 0, 0, 1, 1, 0, 0, 0, 3}},
		"K, no digits":    {bookK(), asked{7, 0, 0, nil, nil}, []api.Errno{0, 1, 0, 0, 0, 0, 0, 0, 0, 0, 3}},
		"L":               {bookL(), asked{9, 2, 0, list(9), nil}, []api.Errno{0, 0, 0, 0, 0, 3, 3, 3, 3, 0, 0}},
		"L, behind":       {bookL(), asked{10, 3, 1, list(9, 9), nil}, []api.Errno{1, 1, 1, 0, 0, 1, 1, 1, 3, 0, 0}},
		"L, no place":     {bookL(), asked{10, 2, 1, list(10), nil}, []api.Errno{1, 1, 0, 0, 0, 3, 1, 1, 3, 0, 0}},
		"no cords":        {book(2, knotted(0, 0)), asked{3, 0, 1, list(1, 1), nil}, []api.Errno{0, 0, 0, 0, 0, 0, 0, 0, 3, 0, 3}},
		"no cords, right": {book(2, knotted(0, 1)), asked{4, 1, 0, list(1, 2), nil}, []api.Errno{1, 1, 1, 0, 0, 1, 1, 3, 3, 0, 0}},
		"one reading":     {book(10, cord(0, 9), knotted(4), knotted(2)), asked{0, 0, 0, list(0), nil}, []api.Errno{0, 0, 0, 0, 0, 0, 0, 0, 3, 0, 3}},
	} {
		if list, zero := errors(x.b, x.a); !slices.Equal(list, x.want) || !zero {
			t.Errorf("%s: errors %v, zero %v", name, list, zero)
		}
	}
}

func TestExamples(t *testing.T) {
	k, l := bookK(), bookL()
	for number, want := range map[int][]int{13: list(1, 3), 7: list(0, 7), 100: nil} {
		digits, e := knots.Tie(k, number)
		if !slices.Equal(digits, want) || (e == api.OK) != (want != nil) || want == nil && e != api.ErrArg {
			t.Errorf("Tie of K, %d = %v, %d", number, digits, e)
		}
		if n, e := knots.Read(k, want); want != nil && (n != number || e != api.OK) {
			t.Errorf("Read of K, %v = %d, %d", want, n, e)
		}
	}
	for cord, want := range []api.Span{span(12, 13), span(5, 15), span(27, 28)} {
		if s, e := knots.Cord(k, cord); s != want || e != api.OK {
			t.Errorf("Cord of K, %d = %v, %d", cord, s, e)
		}
	}
	for n, x := range []struct {
		reading [][]int
		want    bool
	}{
		{[][]int{list(1, 2), list(1, 5), list(2, 7)}, true},
		{[][]int{list(1, 2), list(0, 5), list(2, 7)}, false},
	} {
		if right, e := knots.Right(k, x.reading); right != x.want || e != api.OK {
			t.Errorf("%d: Right of K = %v, %d", n, right, e)
		}
	}
	for name, x := range map[string]struct {
		call func(b api.KnotBook) (int, api.Errno)
		b    api.KnotBook
		want int
	}{
		"Many of K":  {knots.Many, k, 2},
		"Many of L":  {knots.Many, l, 0},
		"Retie of K": {knots.Retie, k, 0},
		"Retie of L": {knots.Retie, l, 2},
	} {
		if n, e := x.call(x.b); n != x.want || e != api.OK {
			t.Errorf("%s = %d, %d", name, n, e)
		}
	}
	for cord, want := range map[int]api.Span{1: span(15, 15), 2: span(27, 28)} {
		if s, e := knots.Sure(k, cord); s != want || e != api.OK {
			t.Errorf("Sure of K, %d = %v, %d", cord, s, e)
		}
	}
	if s, e := knots.Sure(l, 0); s != span(0, 0) || e != api.ErrNone {
		t.Errorf("Sure of L = %v, %d", s, e)
	}
	first, e := knots.Cluster(k, 0, 1)
	second, f := knots.Cluster(k, 1, 0)
	carry, g := knots.Carry(k, 1)
	if first != span(2, 3) || e != api.OK || second != span(1, 1) || f != api.OK || carry != span(0, 0) || g != api.OK {
		t.Errorf("Cluster of K = %v, %d and %v, %d, Carry %v, %d", first, e, second, f, carry, g)
	}
	if cord, place, e := knots.Ask(k); cord != 0 || place != 1 || e != api.OK {
		t.Errorf("Ask of K = %d, %d, %d", cord, place, e)
	}
	if blame, e := knots.Blame(l); !slices.Equal(blame, list(0, 1, 2)) || e != api.OK {
		t.Errorf("Blame of L = %v, %d", blame, e)
	}
	if blame, e := knots.Blame(k); len(blame) > 0 || e != api.ErrNone {
		t.Errorf("Blame of K = %v, %d", blame, e)
	}
}

func TestP11_2TieP11_3Read(t *testing.T) {
	for base := api.MinKnotBase; base <= api.MaxKnotBase; base++ {
		for places := 1; places <= api.MaxKnotPlaces; places++ {
			b := widest(base, places, 1)
			all := allDigits(base, places)
			for number, want := range all {
				digits, e := knots.Tie(b, number)
				n, f := knots.Read(b, want)
				if !slices.Equal(digits, want) || e != api.OK || n != number || f != api.OK {
					t.Fatalf("base %d: Tie of %d = %v, %d; Read of %v = %d, %d", base, number, digits, e, want, n, f)
				}
			}
			for _, number := range list(-1, -len(all), len(all), len(all)+1, 10*len(all), math.MinInt, math.MaxInt) {
				if digits, e := knots.Tie(b, number); len(digits) > 0 || e != api.ErrArg {
					t.Errorf("base %d, %d places: Tie of %d = %v, %d", base, places, number, digits, e)
				}
			}
			last := all[len(all)-1]
			wrong := [][]int{nil, {}, last[1:], append(slices.Clone(last), 0), append(list(0), last...), slices.Repeat(list(0), 1000)}
			for place := range places {
				for _, bad := range list(-1, base, base+1, math.MinInt, math.MaxInt) {
					digits := slices.Clone(last)
					digits[place] = bad
					wrong = append(wrong, digits)
				}
			}
			for _, digits := range wrong {
				if n, e := knots.Read(b, digits); n != 0 || e != api.ErrArg {
					t.Errorf("base %d, %d places: Read of %v = %d, %d", base, places, digits, n, e)
				}
			}
		}
	}
	// What the clusters of the book can be does not matter.
	narrow := book(10, knotted(1, 1), knotted(2, 2))
	if digits, e := knots.Tie(narrow, 34); !slices.Equal(digits, list(3, 4)) || e != api.OK {
		t.Errorf("Tie = %v, %d", digits, e)
	}
	if n, e := knots.Read(narrow, list(9, 8)); n != 98 || e != api.OK {
		t.Errorf("Read = %d, %d", n, e)
	}
}

func TestP11_4Cord(t *testing.T) {
	eachBook(4, 1000, func(_ *rand.Rand, b api.KnotBook) {
		all := allDigits(b.Base, b.Places)
		for cord := range len(b.Cords) + 1 {
			clusters := b.Top
			if cord < len(b.Cords) {
				clusters = b.Cords[cord]
			}
			want := span(-1, -1)
			for number, digits := range all {
				if isFrom(digits, clusters) {
					want.High = number
					if want.Low < 0 {
						want.Low = number
					}
				}
			}
			if s, e := knots.Cord(b, cord); s != want || e != api.OK {
				t.Errorf("Cord(%v, %d) = %v, %d, not %v", b, cord, s, e, want)
			}
		}
	})
	for _, x := range []struct {
		b    api.KnotBook
		cord int
		want api.Span
	}{
		{widest(10, 4, 4), 4, span(0, 9999)},
		{widest(10, 4, 4), 0, span(0, 9999)},
		{widest(2, 4, 0), 0, span(0, 15)},
		// All that is known of the others says nothing here.
		{book(10, knotted(0, 0), cord(1, 3, 2, 8)), 0, span(12, 38)},
		{book(7, cord(0, 1, 6, 6, 2, 3)), 0, span(44, 94)},
	} {
		if s, e := knots.Cord(x.b, x.cord); s != x.want || e != api.OK {
			t.Errorf("Cord(%v, %d) = %v, %d", x.b, x.cord, s, e)
		}
	}
}

// listsOf returns the digits of some numbers, by those of all.
func listsOf(digits [][]int, numbers []int) [][]int {
	var lists [][]int
	for _, number := range numbers {
		lists = append(lists, digits[number])
	}
	return lists
}

func TestP11_5Right(t *testing.T) {
	rights, wrongs := 0, 0
	eachBook(5, 300, func(r *rand.Rand, b api.KnotBook) {
		all, digits := readings(b), allDigits(b.Base, b.Places)
		for _, numbers := range all[:min(len(all), 20)] {
			lists := listsOf(digits, numbers)
			if right, e := knots.Right(b, lists); !right || e != api.OK {
				t.Errorf("Right(%v, %v) = %v, %d", b, lists, right, e)
			}
			rights++
			for range 5 {
				n := r.Intn(len(lists))
				other := slices.Clone(lists)
				other[n] = slices.Clone(lists[n])
				other[n][r.Intn(b.Places)] = anyNumber(r)
				want := slices.ContainsFunc(all, func(numbers []int) bool {
					return slices.EqualFunc(listsOf(digits, numbers), other, slices.Equal)
				})
				if right, e := knots.Right(b, other); right != want || e != api.OK {
					t.Errorf("Right(%v, %v) = %v, %d", b, other, right, e)
				}
				if !want {
					wrongs++
				}
			}
		}
	})
	if rights < 500 || wrongs < 500 {
		t.Errorf("not all was tried: %d, %d", rights, wrongs)
	}
	free := widest(10, 2, 2)
	for n, x := range []struct {
		b       api.KnotBook
		reading [][]int
		want    bool
	}{
		{free, [][]int{list(4, 9), list(5, 0), list(9, 9)}, true},
		{free, [][]int{list(5, 0), list(4, 9), list(9, 9)}, true},
		{free, [][]int{list(5, 0), list(5, 0), list(0, 0)}, false},
		{free, [][]int{list(5, 0), list(4, 9), list(9, 8)}, false},
		// Each one of these would be right if numbers could be other ones.
		{free, [][]int{list(0, 50), list(4, 9), list(9, 9)}, false},
		{free, [][]int{list(5, 0), list(6, -11), list(9, 9)}, false},
		{free, [][]int{list(5, 0), list(5, 0), list(10, 0)}, false},
		{free, [][]int{list(0), list(4, 9), list(4, 9)}, false},
		{free, [][]int{list(0, 0, 0), list(4, 9), list(4, 9)}, false},
		{free, [][]int{nil, list(4, 9), list(4, 9)}, false},
		{free, [][]int{list(4, 9), list(4, 9)}, false},
		{free, [][]int{list(4, 9), list(4, 9), list(9, 8), list(0, 0)}, false},
		{free, [][]int{list(0, 0), list(0, 0), list(4, 9), list(4, 9)}, false},
		{free, [][]int{list(math.MinInt, 0), list(math.MinInt, 0), list(0, 0)}, false},
		{free, nil, false},
		{free, [][]int{}, false},
		{free, slices.Repeat([][]int{list(0, 0)}, 1000), false},
		{widest(2, 1, 0), [][]int{list(0)}, true},
		{widest(2, 1, 0), [][]int{list(1)}, false},
		{widest(2, 1, 0), nil, false},
		{bookK(), [][]int{list(1, 3), list(1, 5), list(2, 8)}, true},
		// The sum is right, but the digits are not ones that are read.
		{bookK(), [][]int{list(1, 4), list(1, 5), list(2, 9)}, false},
		{bookK(), [][]int{list(1, 2), list(1, 6), list(2, 8)}, false},
		{bookK(), [][]int{list(1, 2), list(1, 4), list(2, 6)}, false},
	} {
		if right, e := knots.Right(x.b, x.reading); right != x.want || e != api.OK {
			t.Errorf("%d: Right = %v, %d", n, right, e)
		}
	}
}

func TestP11_6Many(t *testing.T) {
	none, one, more := 0, 0, 0
	eachBook(6, 1000, func(_ *rand.Rand, b api.KnotBook) {
		want := len(readings(b))
		if many, e := knots.Many(b); many != want || e != api.OK {
			t.Errorf("Many(%v) = %d, %d, not %d", b, many, e, want)
		}
		switch want {
		case 0:
			none++
		case 1:
			one++
		default:
			more++
		}
	})
	if none < 100 || one < 100 || more < 100 {
		t.Errorf("not all was tried: %d, %d, %d", none, one, more)
	}
	r := rand.New(rand.NewSource(66))
	for range 200 {
		b := someBook(r, 1000)
		if many, want := manyIn(b), manyOf(b); many != want {
			t.Errorf("Many(%v) = %d, not %d", b, many, want)
		}
	}
	for _, x := range []struct {
		b    api.KnotBook
		want int
	}{
		{widest(10, 4, 0), 1},
		{widest(10, 4, 1), 10000},
		// So many ways there are to cut 10000 to 10003 dots by as many bars.
		{widest(10, 4, 2), 10001 * 10000 / 2},
		{widest(10, 4, 3), 10002 * 10001 * 10000 / 6},
		{widest(10, 4, 4), 10003 * 10002 * 10001 * 10000 / 24},
		{widest(2, 4, 4), 19 * 18 * 17 * 16 / 24},
		{widest(2, 1, 4), 5},
		{book(10, knotted(9, 9, 9, 9), wide(10, 4), wide(10, 4)), 10000},
		{book(10, knotted(0, 0, 0, 0), wide(10, 4), wide(10, 4)), 1},
	} {
		if many := manyIn(x.b); many != x.want {
			t.Errorf("Many(%v) = %d, not %d", x.b, many, x.want)
		}
	}
}

func TestP11_7SureP11_8ClusterP11_9Carry(t *testing.T) {
	wide, none := make(map[string]int), 0
	eachBook(7, 600, func(_ *rand.Rand, b api.KnotBook) {
		all := readings(b)
		if len(all) == 0 {
			none++
		}
		check := func(name string, s api.Span, e api.Errno, of func(numbers []int) int) {
			want, is := amongOf(all, of)
			if s != want || is != (e == api.OK) || !is && e != api.ErrNone {
				t.Errorf("%s of %v = %v, %d, not %v", name, b, s, e, want)
			}
			if want.Low < want.High {
				wide[name]++
			}
		}
		for cord := range len(b.Cords) + 1 {
			s, e := knots.Sure(b, cord)
			check("Sure", s, e, func(numbers []int) int { return numbers[cord] })
		}
		eachCluster(b, func(cord, place int, _ api.Span) {
			s, e := knots.Cluster(b, cord, place)
			check("Cluster", s, e, func(numbers []int) int { return digitIn(b, numbers[cord], place) })
		})
		for place := range b.Places {
			s, e := knots.Carry(b, place)
			check("Carry", s, e, func(numbers []int) int { return carryIn(b, numbers, place) })
		}
	})
	if wide["Sure"] < 200 || wide["Cluster"] < 200 || wide["Carry"] < 20 || none < 100 {
		t.Errorf("not all was tried: %v, %d", wide, none)
	}
}

// three is what Sure, Cluster and Carry return of cords, clusters and places.
type three struct {
	b           api.KnotBook
	cord, place int

	sure, digits, carry api.Span
}

func TestSureByHand(t *testing.T) {
	for _, x := range []three{
		{widest(10, 4, 4), 4, 0, span(0, 9999), span(0, 9), span(0, 0)},
		{widest(10, 4, 4), 0, 1, span(0, 9999), span(0, 9), span(0, 3)},
		{widest(2, 4, 4), 1, 1, span(0, 15), span(0, 1), span(0, 1)},
		{widest(2, 4, 4), 1, 2, span(0, 15), span(0, 1), span(0, 3)},
		// The last place has nothing carried to it.
		{widest(2, 4, 4), 1, 3, span(0, 15), span(0, 1), span(0, 2)},
		{widest(2, 4, 1), 1, 3, span(0, 15), span(0, 1), span(0, 0)},
		{widest(10, 4, 0), 0, 3, span(0, 0), span(0, 0), span(0, 0)},
		{book(10, knotted(5, 0), cord(0, 9, 7, 7), cord(0, 9, 3, 3)), 0, 1, span(7, 47), span(7, 7), span(1, 1)},
		{book(10, knotted(5, 0), cord(0, 9, 7, 7), cord(0, 9, 3, 3)), 1, 0, span(3, 43), span(0, 4), span(0, 0)},
		// The sum is 3 or 13: 2 and 1, or 8 and 5.
		{book(10, cord(0, 1, 3, 3), cord(0, 0, 2, 8), cord(0, 0, 1, 5)), 0, 1, span(2, 8), span(2, 8), span(0, 1)},
		{book(10, cord(1, 1, 3, 3), cord(0, 0, 2, 8), cord(0, 0, 1, 5)), 0, 1, span(8, 8), span(8, 8), span(1, 1)},
		{book(10, cord(0, 1, 3, 3), cord(0, 0, 2, 8), cord(0, 0, 1, 5)), 2, 0, span(3, 13), span(0, 1), span(0, 0)},
	} {
		sure, e := knots.Sure(x.b, x.cord)
		digits, f := knots.Cluster(x.b, x.cord, x.place)
		carry, g := knots.Carry(x.b, x.place)
		if sure != x.sure || digits != x.digits || carry != x.carry || e != api.OK || f != api.OK || g != api.OK {
			t.Errorf("%v: Sure = %v, %d, Cluster = %v, %d, Carry = %v, %d", x, sure, e, digits, f, carry, g)
		}
	}
}

func TestP11_10Ask(t *testing.T) {
	none, ties, other, top := 0, 0, 0, 0
	check := func(b api.KnotBook) {
		all := readings(b)
		cord, place, e := knots.Ask(b)
		if len(all) <= 1 {
			none++
			if cord != 0 || place != 0 || e != api.ErrNone {
				t.Errorf("Ask(%v) = %d, %d, %d", b, cord, place, e)
			}
			return
		}
		least, tied := len(all)+1, 0
		var want []int
		eachCluster(b, func(cord, place int, _ api.Span) {
			switch worst := worstOf(b, all, cord, place); {
			case worst < least:
				least, want, tied = worst, list(cord, place), 0
			case worst == least:
				tied++
			}
		})
		if !slices.Equal(want, list(cord, place)) || e != api.OK {
			t.Errorf("Ask(%v) = %d, %d, %d, not %v", b, cord, place, e, want)
		}
		if tied > 0 {
			ties++
		}
		if cord == len(b.Cords) {
			top++
		}
		if cord > 0 {
			other++
		}
	}
	eachBook(10, 1000, func(_ *rand.Rand, b api.KnotBook) { check(b) })
	r := rand.New(rand.NewSource(100))
	for range 200 {
		// Of some cords that are almost clear the top cord says the most.
		b := book(10, wide(10, 2))
		for range 2 + r.Intn(3) {
			low, high := r.Intn(2), r.Intn(8)
			b.Cords = append(b.Cords, cord(low, low+r.Intn(2), high, high+1))
		}
		check(b)
	}
	if none < 100 || ties < 100 || other < 50 || top < 5 {
		t.Errorf("not all was tried: %d, %d, %d, %d", none, ties, other, top)
	}
	for _, x := range []struct {
		b           api.KnotBook
		cord, place int
	}{
		{widest(10, 4, 1), 0, 0},
		{book(10, cord(0, 0, 4, 6), cord(0, 0, 4, 6)), 0, 1},
		{book(10, cord(0, 9, 0, 9), knotted(0, 1), cord(1, 1, 2, 3)), 1, 1},
		// The sums 2 to 5 come about in 1, 3, 3 and 1 ways, each digit of a cord in 4.
		{book(10, cord(2, 5), cord(1, 2), cord(1, 2), cord(0, 1)), 3, 0},
	} {
		if cord, place, e := knots.Ask(x.b); cord != x.cord || place != x.place || e != api.OK {
			t.Errorf("Ask(%v) = %d, %d, %d", x.b, cord, place, e)
		}
	}
}

func TestP11_11RetieP11_12Blame(t *testing.T) {
	right, few, some := 0, 0, 0
	check := func(b api.KnotBook) {
		want, blame := fewestOf(allKnots(b)), blameOf(b)
		if n, e := knots.Retie(b); n != want || e != api.OK {
			t.Errorf("Retie(%v) = %d, %d, not %d", b, n, e, want)
		}
		l, e := knots.Blame(b)
		if want == 0 && (len(l) > 0 || e != api.ErrNone) || want > 0 && (!slices.Equal(l, blame) || e != api.OK) {
			t.Errorf("Blame(%v) = %v, %d, not %v", b, l, e, blame)
		}
		switch {
		case want == 0:
			right++
		case len(blame) <= len(b.Cords):
			some++
		default:
			few++
		}
	}
	eachBook(11, 1000, func(_ *rand.Rand, b api.KnotBook) {
		if sizeOf(b.Base, b.Places) <= 1000 {
			check(b)
		}
	})
	r := rand.New(rand.NewSource(12))
	for range 50 {
		check(someBook(r, 1000))
	}
	if right < 100 || few < 100 || some < 100 {
		t.Errorf("not all was tried: %d, %d, %d", right, few, some)
	}
}

func TestRetieByHand(t *testing.T) {
	nines, ones := knotted(9, 9, 9, 9), knotted(0, 0, 0, 1)
	for _, x := range []struct {
		b     api.KnotBook
		knots int
		blame []int
	}{
		{book(10, knotted(0, 0)), 0, nil},
		{book(10, knotted(3, 2)), 5, list(0)},
		{book(10, cord(3, 9, 0, 9)), 3, list(0)},
		// Either cord, and either way, but never a digit above the base.
		{book(10, knotted(5), knotted(8)), 3, list(0, 1)},
		{book(10, knotted(9), knotted(9), knotted(9)), 9, list(0, 1)},
		{book(10, knotted(0), knotted(9), knotted(9)), 18, list(0, 1, 2)},
		// A knot of the higher cluster is worth ten.
		{book(10, knotted(5, 0), knotted(4, 0)), 1, list(0, 1)},
		{book(10, knotted(5, 0), knotted(4, 0), knotted(0, 9)), 1, list(0)},
		{book(10, knotted(1, 0), knotted(0, 9), knotted(0, 0)), 1, list(1)},
		{book(10, knotted(1, 0), knotted(0, 9)), 10, list(0, 1)},
		{book(10, nines, nines, ones), 1, list(0, 1)},
		// 999 and 1 are 1000: 9 knots are untied, and one is tied at the top.
		{book(10, knotted(0, 0, 0, 0), nines, ones), 10, list(0, 2)},
		// 6000 and 4 times 999 are 9996.
		{book(10, nines, nines, nines, nines, nines), 33, list(0, 1, 2, 3, 4)},
		{book(2, knotted(1, 1, 1, 1), knotted(1, 1, 1, 1), knotted(1, 1, 1, 1)), 3, list(0, 1, 2)},
		// No knot of the top cord helps: it has all that it can.
		{book(10, cord(0, 9), knotted(7), cord(4, 6)), 2, list(0, 1)},
		{book(10, cord(0, 9), knotted(7), cord(2, 6)), 0, nil},
	} {
		fewest, e := knots.Retie(x.b)
		blame, f := knots.Blame(x.b)
		if fewest != x.knots || e != api.OK || !slices.Equal(blame, x.blame) || (f == api.OK) != (x.blame != nil) || f != api.OK && f != api.ErrNone {
			t.Errorf("%v: Retie = %d, %d, Blame = %v, %d", x.b, fewest, e, blame, f)
		}
	}
}

func TestNilAndEmpty(t *testing.T) {
	none, empty := book(10, knotted(0)), book(10, knotted(0))
	none.Cords, empty.Cords = nil, [][]api.Span{}
	for _, a := range []asked{{0, 0, 0, nil, nil}, {0, 0, 0, list(), [][]int{}}, {9, 1, 1, list(0), [][]int{nil}}, {9, 1, 1, list(0), [][]int{{}}}} {
		want, _ := errors(none, a)
		for _, b := range []api.KnotBook{none, empty} {
			list, zero := errors(b, a)
			if e := knots.Check(b); e != api.OK || !slices.Equal(list, want) || !zero {
				t.Errorf("%v: Check = %d, errors %v, zero %v", a, e, list, zero)
			}
			if right, e := knots.Right(b, a.reading); right || e != api.OK {
				t.Errorf("%v: Right = %v, %d", a, right, e)
			}
		}
	}
	for _, top := range [][]api.Span{nil, {}} {
		for _, cords := range [][][]api.Span{nil, {}, {nil}, {{}}} {
			for _, places := range list(0, 1) {
				if e := knots.Check(api.KnotBook{Base: 10, Places: places, Cords: cords, Top: top}); e != api.ErrKnot {
					t.Errorf("%v, %v, %d: Check = %d", top, cords, places, e)
				}
			}
		}
	}
}

// spare returns a list that has room for one element more, which is there.
func spare[T any](list []T, last T) []T {
	return append(slices.Clone(list), last)[:len(list)]
}

func TestMemory(t *testing.T) {
	eachBook(20, 100, func(r *rand.Rand, b api.KnotBook) {
		all, zeros := allDigits(b.Base, b.Places), make([]int, len(b.Cords)+1)
		kept, digits, lists := clone(b), slices.Repeat(list(1), b.Places), listsOf(all, zeros)
		keptDigits, keptLists := slices.Clone(digits), [][]int{}
		for _, l := range lists {
			keptLists = append(keptLists, slices.Clone(l))
		}
		// What lies behind the lists is the caller's, too.
		extra := span(7, 77)
		b.Top, b.Cords = spare(b.Top, extra), spare(b.Cords, b.Top)
		for n, c := range b.Cords {
			b.Cords[n] = spare(c, extra)
		}
		digits, lists = spare(digits, 77), spare(lists, digits)
		for range 2 {
			number := r.Intn(len(all))
			tie, _ := knots.Tie(b, number)
			if !slices.Equal(tie, all[number]) {
				t.Errorf("Tie(%v, %d) = %v", b, number, tie)
			}
			blame, _ := knots.Blame(b)
			again, _ := knots.Blame(kept)
			if !slices.Equal(blame, again) {
				t.Errorf("Blame(%v) = %v, not %v", b, again, blame)
			}
			for _, l := range [][]int{tie, blame} {
				for n := range l[:cap(l)] {
					l[:cap(l)][n] = -9
				}
			}
			eachCluster(b, func(cord, place int, _ api.Span) {
				errors(b, asked{number, cord, place, digits, lists})
			})
			knots.Read(b, digits)
			knots.Right(b, lists)
		}
		whole := len(kept.Top)
		if !same(b, kept) || b.Top[:whole+1][whole] != extra || !slices.Equal(b.Cords[:len(kept.Cords)+1][len(kept.Cords)], kept.Top) {
			t.Errorf("%v has become %v", kept, b)
		}
		for _, c := range b.Cords {
			if c[:whole+1][whole] != extra {
				t.Errorf("%v has become %v", kept, b)
			}
		}
		if !slices.Equal(digits, keptDigits) || digits[:whole+1][whole] != 77 || !slices.EqualFunc(lists, keptLists, slices.Equal) || !slices.Equal(lists[:len(lists)+1][len(lists)], keptDigits) {
			t.Errorf("%v, %v have become %v, %v", keptDigits, keptLists, digits, lists)
		}
	})
}

// spoiled returns a book in which something is any number.
func spoiled(r *rand.Rand, b api.KnotBook) api.KnotBook {
	some := []*int{&b.Base, &b.Places}
	eachCluster(b, func(cord, place int, _ api.Span) {
		s := at(&b, cord, place)
		some = append(some, &s.Low, &s.High)
	})
	*some[r.Intn(len(some))] = anyNumber(r)
	if r.Intn(20) == 0 {
		b.Cords = append(b.Cords, cord(anyNumber(r), anyNumber(r)))
	}
	return b
}

// isBook reports whether a book is as the chapter says.
func isBook(b api.KnotBook) bool {
	is := b.Base >= 2 && b.Base <= 10 && b.Places >= 1 && b.Places <= 4 && len(b.Cords) <= 4
	for _, c := range append(slices.Clone(b.Cords), b.Top) {
		is = is && len(c) == b.Places
		for _, s := range c {
			is = is && s.Low >= 0 && s.Low <= s.High && s.High <= b.Base-1
		}
	}
	return is
}

func TestP1Knots(t *testing.T) {
	r := rand.New(rand.NewSource(1))
	good, bad := 0, 0
	for range 20000 {
		b := spoiled(r, someBook(r, 1000))
		is := isBook(b)
		if is {
			good++
		} else {
			bad++
		}
		var lists [][]int
		for range r.Intn(6) {
			var digits []int
			for range r.Intn(6) {
				digits = append(digits, anyNumber(r))
			}
			lists = append(lists, digits)
		}
		var digits []int
		for range r.Intn(6) {
			digits = append(digits, anyNumber(r))
		}
		list, zero := errors(b, asked{anyNumber(r), anyNumber(r), anyNumber(r), digits, lists})
		if e := knots.Check(b); (e == api.OK) != is || is == areAll(append(list, e), api.ErrKnot) || !zero {
			t.Errorf("%v: Check = %d, errors %v, zero %v", b, e, list, zero)
		}
	}
	if good < 2000 || bad < 2000 {
		t.Errorf("not all was tried: %d, %d", good, bad)
	}
}
