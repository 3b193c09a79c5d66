package dowsers_test

import (
	"math/big"
	"math/rand"
	"slices"
	"testing"

	"steening/api"
	"steening/dowsers"
)

// pointsAt returns the points of a saying if so much is found at its place.
func pointsAt(t *testing.T, b api.DowseBook, saying, found int) int {
	points, e := dowsers.Points(digAt(b, b.Sayings[saying].Place, found), saying)
	if e != api.OK {
		t.Errorf("Points(%v, %d) is refused: %d", b, saying, e)
	}
	return points
}

func TestP4_13Guessing(t *testing.T) {
	eachBig(13, 300, func(_ *rand.Rand, b api.DowseBook) {
		for saying := range b.Sayings {
			sum := 0
			for depth := 1; depth <= b.Depth; depth++ {
				sum += pointsAt(t, b, saying, depth)
			}
			if sum != 0 {
				t.Errorf("%v: the points of %d are %d together", b, saying, sum)
			}
		}
	})
}

func TestP4_14SayingLess(t *testing.T) {
	right, wrong := 0, 0
	eachBig(14, 300, func(r *rand.Rand, b api.DowseBook) {
		for n, said := range b.Sayings {
			found := 1 + r.Intn(b.Depth)
			less := clone(b)
			less.Sayings[n].Low += r.Intn(said.High - said.Low + 1)
			less.Sayings[n].High -= r.Intn(said.High - less.Sayings[n].Low + 1)
			before := slices.Contains(depthsOf(said), found)
			if before != slices.Contains(depthsOf(less.Sayings[n]), found) {
				continue
			}
			if narrower := len(depthsOf(said)) - len(depthsOf(less.Sayings[n])); narrower > 0 {
				if before {
					right++
				} else {
					wrong++
				}
				if pointsAt(t, less, n, found) != pointsAt(t, b, n, found)+narrower {
					t.Errorf("%v: the points of %d by %d narrower: %d, %d", b, n, narrower, pointsAt(t, b, n, found), pointsAt(t, less, n, found))
				}
			}
		}
	})
	if right < 100 || wrong < 100 {
		t.Errorf("not all was tried: %d, %d", right, wrong)
	}
}

func TestP4_15EachTruth(t *testing.T) {
	eachSmall(15, func(b api.DowseBook, all [][]int) {
		some := b.Dowsers == 0
		for dowser := range b.Dowsers {
			some = some || leadOf(b, dowser) != api.Never
		}
		if !some {
			t.Errorf("%v: nobody can lead", b)
		}
		for _, truth := range all {
			dug := clone(b)
			dug.Found = truth
			scores := scoresIn(b, truth)
			for dowser, score := range scores {
				s, leads := betweenOf(b, dowser), leadOf(b, dowser)
				if score != scoreOf(dug, dowser) || score < s.Low || score > s.High {
					t.Errorf("%v: in the truth %v dowser %d has %d, Score = %d, Between = %v", b, truth, dowser, score, scoreOf(dug, dowser), s)
				}
				if first := leadsIn(scores, dowser); leads == api.Surely && !first || leads == api.Never && first {
					t.Errorf("%v: in the truth %v dowser %d leads: %v; Leads = %d", b, truth, dowser, first, leads)
				}
			}
		}
	})
}

func TestP4_16OneMorePlace(t *testing.T) {
	narrower, known := 0, 0
	eachBig(16, 300, func(r *rand.Rand, b api.DowseBook) {
		for place, found := range b.Found {
			if found != api.DowseNot {
				continue
			}
			dug := digAt(b, place, 1+r.Intn(b.Depth))
			for dowser := range b.Dowsers {
				before, after := betweenOf(b, dowser), betweenOf(dug, dowser)
				if after.Low < before.Low || after.High > before.High {
					t.Errorf("%v: Between of %d = %v, and %v with %v", b, dowser, before, after, dug.Found)
				}
				if after != before {
					narrower++
				}
				was, is := leadOf(b, dowser), leadOf(dug, dowser)
				if was != api.Perhaps && is != was {
					t.Errorf("%v: Leads of %d = %d, and %d with %v", b, dowser, was, is, dug.Found)
				}
				if was == api.Perhaps && is != was {
					known++
				}
			}
			b = dug
		}
		order, _ := dowsers.Order(b)
		for dowser := range b.Dowsers {
			if leads := leadOf(b, dowser); leads == api.Perhaps || dowser == order[0] && leads != api.Surely {
				t.Errorf("%v: Leads of %d = %d, Order = %v", b, dowser, leads, order)
			}
		}
	})
	if narrower < 100 || known < 100 {
		t.Errorf("not all was tried: %d, %d", narrower, known)
	}
}

func TestP4_17Chances(t *testing.T) {
	right, wrong, all := 0, 0, 0
	one := big.NewRat(1, 1)
	eachBig(17, 1000, func(r *rand.Rand, b api.DowseBook) {
		for dowser := range b.Dowsers {
			chance := chanceIn(b, dowser)
			if chance.Sign() <= 0 || chance.Cmp(one) > 0 {
				t.Errorf("Chance(%v, %d) = %v", b, dowser, chance)
			}
			many, widths := rightAndWidths(b, dowser)
			if many == len(widths) {
				all++
				product := big.NewRat(1, 1)
				for _, width := range widths {
					product.Mul(product, big.NewRat(int64(width), int64(b.Depth)))
				}
				if chance.Cmp(product) != 0 {
					t.Errorf("Chance(%v, %d) = %v, not %v", b, dowser, chance, product)
				}
			}
			for place, found := range b.Found {
				if found == api.DowseNot || slices.ContainsFunc(b.Sayings, func(s api.DowseSaying) bool { return s.Dowser == dowser && s.Place == place }) {
					continue
				}
				said := someSaying(r, dowser, place, b.Depth)
				more := clone(b)
				more.Sayings = inOrder(append(more.Sayings, said))
				order := chanceIn(more, dowser).Cmp(chance)
				is := slices.Contains(depthsOf(said), found)
				if is {
					right++
				} else {
					wrong++
				}
				if is && order > 0 || !is && order < 0 {
					t.Errorf("%v: Chance of %d = %v, and %v with %v", b, dowser, chance, chanceIn(more, dowser), said)
				}
			}
		}
	})
	if right < 100 || wrong < 100 || all < 100 {
		t.Errorf("not all was tried: %d, %d, %d", right, wrong, all)
	}
}

// withRight returns a book with so many further sayings of a dowser, of a width,
// that are right, each at a place of its own.
func withRight(r *rand.Rand, b api.DowseBook, dowser, width, many int) api.DowseBook {
	b = clone(b)
	for range many {
		low := 1 + r.Intn(b.Depth-width+1)
		said := api.DowseSaying{Dowser: dowser, Place: len(b.Found), Low: low, High: low + width - 1}
		b.Found = append(b.Found, low+r.Intn(width))
		b.Sayings = append(b.Sayings, said)
	}
	b.Sayings = inOrder(b.Sayings)
	return b
}

func TestP4_18HowMany(t *testing.T) {
	counts := make(map[int]int)
	tooMany := 0
	r := rand.New(rand.NewSource(18))
	for range 2000 {
		b := someBook(r, api.MaxDowseDepth, 3, 2, 2)
		for dowser := range b.Dowsers {
			width, hundredths := 1+r.Intn(b.Depth), 1+r.Intn(99)
			more, e := dowsers.More(b, dowser, width, hundredths)
			need := more
			if e == api.ErrMany {
				need = api.MaxDowsePlaces + 1
				tooMany++
			}
			counts[more]++
			for many := range api.MaxDowsePlaces - len(b.Found) + 1 {
				shows, f := dowsers.Shows(withRight(r, b, dowser, width, many), dowser, hundredths)
				if shows != (many >= need) || f != api.OK {
					t.Errorf("More(%v, %d, %d, %d) = %d, %d; with %d, Shows = %v, %d", b, dowser, width, hundredths, more, e, many, shows, f)
				}
			}
			shows, _ := dowsers.Shows(b, dowser, hundredths)
			for wide := 1; wide <= b.Depth; wide++ {
				if more, e := dowsers.More(b, dowser, wide, hundredths); shows != (more == 0 && e == api.OK) {
					t.Errorf("%v: Shows of %d, %d = %v; More of %d = %d, %d", b, dowser, hundredths, shows, wide, more, e)
				}
			}
		}
	}
	if counts[0] < 100 || counts[1] < 100 || counts[3] < 20 || tooMany < 20 {
		t.Errorf("not all was tried: %v, %d", counts, tooMany)
	}
}

// renamed returns a book in which the dowser n has the number names[n].
func renamed(b api.DowseBook, names []int) api.DowseBook {
	b = clone(b)
	for n := range b.Sayings {
		b.Sayings[n].Dowser = names[b.Sayings[n].Dowser]
	}
	b.Sayings = inOrder(b.Sayings)
	return b
}

func TestP4_19ThePurse(t *testing.T) {
	nothing := 0
	eachBig(19, 1000, func(r *rand.Rand, b api.DowseBook) {
		paid, sum, above := paidBy(b), 0, false
		for dowser, one := range paid {
			sum += one
			above = above || scoreOf(b, dowser) > 0
			for other, two := range paid {
				if scoreOf(b, dowser) > scoreOf(b, other) && one < two {
					t.Errorf("Pay(%v) = %v", b, paid)
				}
			}
		}
		if !above {
			nothing++
		}
		if above && sum != b.Pence || !above && sum != 0 {
			t.Errorf("Pay(%v) = %v, which is %d", b, paid, sum)
		}
	})
	eachBig(20, 300, func(r *rand.Rand, b api.DowseBook) {
		names := r.Perm(b.Dowsers)
		other := renamed(b, names)
		for dowser, name := range names {
			if scoreOf(b, dowser) != scoreOf(other, name) || betweenOf(b, dowser) != betweenOf(other, name) ||
				leadOf(b, dowser) != leadOf(other, name) || chanceIn(b, dowser).Cmp(chanceIn(other, name)) != 0 {
				t.Errorf("%v: dowser %d is another one as %d", b, dowser, name)
			}
		}
	})
	if nothing < 100 {
		t.Errorf("only %d purses were not paid", nothing)
	}
}
