package knots_test

import (
	"math/rand"
	"slices"
	"testing"

	"steening/api"
	"steening/knots"
)

// isIn reports whether a number is within a span.
func isIn(n int, s api.Span) bool {
	return n >= s.Low && n <= s.High
}

// isNarrower reports whether a span is within another one.
func isNarrower(a, b api.Span) bool {
	return isIn(a.Low, b) && isIn(a.High, b)
}

func TestP11_13ThereAndBack(t *testing.T) {
	for base := api.MinKnotBase; base <= api.MaxKnotBase; base++ {
		for places := 1; places <= api.MaxKnotPlaces; places++ {
			b := book(base, wide(base, places), slices.Repeat(knotted(0), places))
			var before []int
			for number := range sizeOf(base, places) {
				digits, e := knots.Tie(b, number)
				n, f := knots.Read(b, digits)
				again, g := knots.Tie(b, n)
				if n != number || !slices.Equal(again, digits) || e != api.OK || f != api.OK || g != api.OK {
					t.Fatalf("base %d, %d places: Tie of %d = %v, Read of it %d, and Tie of this %v", base, places, number, digits, n, again)
				}
				if slices.Compare(before, digits) >= 0 {
					t.Errorf("base %d: Tie of %d = %v, behind %v", base, number, digits, before)
				}
				before = digits
			}
		}
	}
}

func TestP11_14EachRightReading(t *testing.T) {
	some := 0
	eachBook(14, 600, func(_ *rand.Rand, b api.KnotBook) {
		all := readings(b)
		for cord := range len(b.Cords) + 1 {
			sure, e := knots.Sure(b, cord)
			own, _ := knots.Cord(b, cord)
			if e == api.OK && !isNarrower(sure, own) || (e == api.OK) != (len(all) > 0) {
				t.Errorf("%v: Sure of %d = %v, %d, Cord %v", b, cord, sure, e, own)
			}
			for place := range b.Places {
				digits := clusterOf(b, cord, place)
				for _, numbers := range all {
					some++
					if !isIn(numbers[cord], sure) || !isIn(digitIn(b, numbers[cord], place), digits) {
						t.Errorf("%v: %v, but Sure of %d = %v, Cluster of %d %v", b, numbers, cord, sure, place, digits)
					}
				}
			}
		}
	})
	if some < 1000 {
		t.Errorf("not all was tried: %d", some)
	}
}

// narrower returns a random span within another one.
func narrower(r *rand.Rand, s api.Span) api.Span {
	low := s.Low + r.Intn(s.High-s.Low+1)
	return span(low, low+r.Intn(s.High-low+1))
}

func TestP11_15Clearer(t *testing.T) {
	fewer, more, surer := 0, 0, 0
	eachBook(15, 2000, func(r *rand.Rand, b api.KnotBook) {
		cord, place := r.Intn(len(b.Cords)+1), r.Intn(b.Places)
		clear := withSpan(b, cord, place, narrower(r, *at(&b, cord, place)))
		if many, other := manyIn(b), manyIn(clear); other > many {
			t.Errorf("%v: Many = %d, of %v %d", b, many, clear, other)
		} else if other < many {
			fewer++
		}
		if fewest, other := retieOf(b), retieOf(clear); other < fewest {
			t.Errorf("%v: Retie = %d, of %v %d", b, fewest, clear, other)
		} else if other > fewest {
			more++
		}
		for cord := range len(b.Cords) + 1 {
			before := sureOf(b, cord)
			behind, e := knots.Sure(clear, cord)
			if e == api.OK && !isNarrower(behind, before) {
				t.Errorf("%v: Sure of %d = %v, of %v %v", b, cord, before, clear, behind)
			}
			if e == api.OK && behind != before {
				surer++
			}
		}
	})
	if fewer < 100 || more < 100 || surer < 100 {
		t.Errorf("not all was tried: %d, %d, %d", fewer, more, surer)
	}
}

func TestP11_16DigitByDigit(t *testing.T) {
	r := rand.New(rand.NewSource(16))
	parts := 0
	for range 300 {
		b := someBook(r, 10000)
		many := manyIn(b)
		eachCluster(b, func(cord, place int, s api.Span) {
			sum := 0
			for digit := s.Low; digit <= s.High; digit++ {
				part := manyIn(withSpan(b, cord, place, span(digit, digit)))
				if part > 0 && part < many {
					parts++
				}
				sum += part
			}
			if sum != many {
				t.Errorf("%v: Many = %d, but %d by the digits of %d, %d", b, many, sum, cord, place)
			}
		})
	}
	if parts < 500 {
		t.Errorf("not all was tried: %d", parts)
	}
}

func TestP11_17AnyOrder(t *testing.T) {
	r := rand.New(rand.NewSource(17))
	others := 0
	for range 1000 {
		b := someBook(r, 10000)
		mixed := clone(b)
		r.Shuffle(len(mixed.Cords), func(i, j int) {
			mixed.Cords[i], mixed.Cords[j] = mixed.Cords[j], mixed.Cords[i]
		})
		if !same(mixed, b) {
			others++
		}
		top := len(b.Cords)
		if manyIn(b) != manyIn(mixed) || retieOf(b) != retieOf(mixed) || sureOf(b, top) != sureOf(mixed, top) {
			t.Errorf("%v: Many = %d, Retie = %d, Sure of the top %v, but of %v %d, %d, %v", b, manyIn(b), retieOf(b), sureOf(b, top), mixed, manyIn(mixed), retieOf(mixed), sureOf(mixed, top))
		}
		for place := range b.Places {
			if carry, other := carryOf(b, place), carryOf(mixed, place); carry != other {
				t.Errorf("%v: Carry of %d = %v, of %v %v", b, place, carry, mixed, other)
			}
		}
	}
	if others < 400 {
		t.Errorf("not all was tried: %d", others)
	}
}

func TestP11_18ACordOfNothing(t *testing.T) {
	r := rand.New(rand.NewSource(18))
	tried, fewer := 0, 0
	for range 2000 {
		b := someBook(r, 10000)
		if len(b.Cords) == api.MaxKnotCords {
			continue
		}
		tried++
		extra := r.Intn(len(b.Cords) + 1)
		more := clone(b)
		more.Cords = slices.Insert(more.Cords, extra, slices.Repeat(knotted(0), b.Places))
		if manyIn(b) != manyIn(more) || retieOf(b) < retieOf(more) {
			t.Errorf("%v: Many = %d, Retie = %d, but with one cord more %d, %d", b, manyIn(b), retieOf(b), manyIn(more), retieOf(more))
		}
		if retieOf(more) < retieOf(b) {
			fewer++
		}
		for cord := range len(b.Cords) + 1 {
			after := cord
			if cord >= extra {
				after++
			}
			if sure, other := sureOf(b, cord), sureOf(more, after); sure != other {
				t.Errorf("%v: Sure of %d = %v, but with one cord more %v", b, cord, sure, other)
			}
		}
		for place := range b.Places {
			if carry, other := carryOf(b, place), carryOf(more, place); carry != other {
				t.Errorf("%v: Carry of %d = %v, but with one cord more %v", b, place, carry, other)
			}
		}
	}
	if tried < 1000 || fewer < 3 {
		t.Errorf("not all was tried: %d, %d", tried, fewer)
	}
	// Where 9 cannot become 10 by one knot, 9 and 1 can.
	one, two := book(10, knotted(1, 0), knotted(0, 9)), book(10, knotted(1, 0), knotted(0, 9), knotted(0, 0))
	if retieOf(one) != 10 || retieOf(two) != 1 {
		t.Errorf("Retie = %d, and with one cord more %d", retieOf(one), retieOf(two))
	}
}

func TestP11_19Retying(t *testing.T) {
	r := rand.New(rand.NewSource(19))
	less, none := 0, 0
	for range 1000 {
		b := someBook(r, 10000)
		fewest := retieOf(b)
		_, e := knots.Blame(b)
		if (fewest == 0) != (manyIn(b) > 0) || (fewest == 0) == (e == api.OK) || e != api.OK && e != api.ErrNone {
			t.Errorf("%v: Retie = %d, Many = %d, Blame: %d", b, fewest, manyIn(b), e)
		}
		if fewest > 0 {
			none++
		}
		eachCluster(b, func(cord, place int, s api.Span) {
			for _, other := range []api.Span{span(s.Low, s.High+1), span(s.Low-1, s.High)} {
				if other.Low < 0 || other.High >= b.Base {
					continue
				}
				n := retieOf(withSpan(b, cord, place, other))
				if n != fewest && n != fewest-1 {
					t.Errorf("%v: Retie = %d, but with %v at %d, %d %d", b, fewest, other, cord, place, n)
				}
				if n < fewest {
					less++
				}
			}
		})
	}
	if less < 100 || none < 100 {
		t.Errorf("not all was tried: %d, %d", less, none)
	}
}

// leftAtWorst returns how many right readings are left at the worst if the digit
// of a cluster is found.
func leftAtWorst(b api.KnotBook, cord, place int) int {
	worst := 0
	for digit := range b.Base {
		if isIn(digit, *at(&b, cord, place)) {
			worst = max(worst, manyIn(withSpan(b, cord, place, span(digit, digit))))
		}
	}
	return worst
}

func TestP11_20WhatToCount(t *testing.T) {
	r := rand.New(rand.NewSource(20))
	asked, worse := 0, 0
	for range 500 {
		b := someBook(r, 10000)
		cord, place, e := knots.Ask(b)
		if e != api.OK {
			continue
		}
		asked++
		best := leftAtWorst(b, cord, place)
		if best >= manyIn(b) {
			t.Errorf("%v: Ask = %d, %d, which leaves all %d", b, cord, place, best)
		}
		eachCluster(b, func(c, p int, _ api.Span) {
			switch other := leftAtWorst(b, c, p); {
			case other < best:
				t.Errorf("%v: Ask = %d, %d, which leaves %d, but %d, %d leaves %d", b, cord, place, best, c, p, other)
			case other > best:
				worse++
			}
		})
	}
	if asked < 100 || worse < 500 {
		t.Errorf("not all was tried: %d, %d", asked, worse)
	}
}
