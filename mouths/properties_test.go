package mouths_test

import (
	"math/rand"
	"slices"
	"testing"

	"steening/api"
	"steening/mouths"
)

func TestP7_13AllFlows(t *testing.T) {
	over := 0
	eachFlow(13, 500, func(_ *rand.Rand, b api.MouthBox, flow int) {
		has := gaugesOf(b, flow)
		if len(has) != len(b.Shares) || sumOf(has)+overOf(b, flow) != flow {
			t.Errorf("%v, %d: Gauges = %v, Over = %d", b, flow, has, overOf(b, flow))
		}
		if flow == 0 {
			return
		}
		less, more := gaugesOf(b, flow-1), 0
		for quarter := range has {
			if has[quarter] < less[quarter] {
				t.Errorf("%v: Gauges of %d = %v, and %v of one less", b, flow, has, less)
			}
			more += has[quarter] - less[quarter]
		}
		overflows := overOf(b, flow) - overOf(b, flow-1)
		if more+overflows != 1 || overflows < 0 {
			t.Errorf("%v: of %d quarters have %d more, %d more overflow", b, flow, more, overflows)
		}
		quarter, e := mouths.Turn(b, flow-1)
		if (e == api.OK) != (more == 1) || e == api.OK && has[quarter] != less[quarter]+1 {
			t.Errorf("%v: Gauges of %d = %v, and %v of one less, but Turn = %d, %d", b, flow, has, less, quarter, e)
		}
		over += overflows
	})
	if over < 1000 {
		t.Errorf("only %d gauges that overflow were tried", over)
	}
}

func TestP7_14WhoIsNext(t *testing.T) {
	even := 0
	eachFlow(14, 500, func(_ *rand.Rand, b api.MouthBox, flow int) {
		has := gaugesOf(b, flow)
		for one, gauges := range has {
			if gauges == 0 {
				continue
			}
			for other, more := range has {
				if other == one || more == b.Mosts[other] {
					continue
				}
				is, would := b.Shares[one]*(2*more+1), b.Shares[other]*(2*gauges-1)
				if is < would || is == would && other < one {
					t.Errorf("%v, %d: Gauges = %v, but %d is before %d", b, flow, has, other, one)
				}
				if is == would {
					even++
				}
			}
			if b.Shares[one] == 0 {
				t.Errorf("%v, %d: Gauges = %v, without a share", b, flow, has)
			}
		}
	})
	if even < 500 {
		t.Errorf("only %d gauges that are worth as much were tried", even)
	}
}

func TestP7_15Shares(t *testing.T) {
	twice, gains := 0, 0
	eachFlow(15, 500, func(r *rand.Rand, b api.MouthBox, flow int) {
		doubled := with(b, func(b *api.MouthBox) {
			for quarter := range b.Shares {
				b.Shares[quarter] *= 2
			}
		})
		has := gaugesOf(b, flow)
		if mouths.Check(doubled) == api.OK {
			twice++
			if !slices.Equal(gaugesOf(doubled, flow), has) || !slices.Equal(remaindersBy(doubled, flow), remaindersBy(b, flow)) {
				t.Errorf("%v, %d: not the same with twice the shares", b, flow)
			}
		}
		for quarter, share := range b.Shares {
			more := withShare(b, quarter, share+r.Intn(api.MaxMouthShare-share+1))
			gains += changeOf(t, b, more, quarter, flow)
		}
	})
	if twice < 1000 || gains < 1000 {
		t.Errorf("not all was tried: %d, %d", twice, gains)
	}
}

// changeOf fails unless a quarter has no fewer gauges of a flow in another box,
// and no other quarter has more. It returns how many more the quarter has.
func changeOf(t *testing.T, b, other api.MouthBox, quarter, flow int) int {
	t.Helper()
	before, after := gaugesOf(b, flow), gaugesOf(other, flow)
	for n := range before {
		if n == quarter && after[n] < before[n] || n != quarter && after[n] > before[n] {
			t.Errorf("%d: of %v Gauges = %v, of %v Gauges = %v", flow, b, before, other, after)
		}
	}
	return after[quarter] - before[quarter]
}

func TestP7_16Mosts(t *testing.T) {
	gains, free := 0, 0
	eachFlow(16, 500, func(r *rand.Rand, b api.MouthBox, flow int) {
		has, full := gaugesOf(b, flow), false
		for quarter, gauges := range has {
			most := b.Mosts[quarter]
			if gauges > most {
				t.Errorf("%v, %d: Gauges = %v", b, flow, has)
			}
			full = full || gauges == most
			more := with(b, func(b *api.MouthBox) { b.Mosts[quarter] += r.Intn(api.MaxMouthMost - most + 1) })
			gains += changeOf(t, b, more, quarter, flow)
		}
		if full {
			return
		}
		free++
		for range 3 {
			other := with(b, func(b *api.MouthBox) {
				for quarter, gauges := range has {
					b.Mosts[quarter] = gauges + r.Intn(api.MaxMouthMost-gauges+1)
				}
			})
			if !slices.Equal(gaugesOf(other, flow), has) {
				t.Errorf("%d: of %v Gauges = %v, of %v Gauges = %v", flow, b, has, other, gaugesOf(other, flow))
			}
		}
	})
	if gains < 1000 || free < 1000 {
		t.Errorf("not all was tried: %d, %d", gains, free)
	}
}

func TestP7_17AmongSome(t *testing.T) {
	tried := 0
	eachFlow(17, 300, func(_ *rand.Rand, b api.MouthBox, flow int) {
		has := gaugesOf(b, flow)
		for set := range 1 << len(b.Shares) {
			var some api.MouthBox
			var want []int
			for quarter, gauges := range has {
				if set>>quarter&1 == 1 {
					some.Shares = append(some.Shares, b.Shares[quarter])
					some.Mosts = append(some.Mosts, b.Mosts[quarter])
					want = append(want, gauges)
				}
			}
			if alone := gaugesOf(some, sumOf(want)); !slices.Equal(alone, want) {
				t.Errorf("%v, %d: Gauges = %v, of %v alone %v", b, flow, has, some, alone)
			}
			if len(want) > 1 && len(want) < len(has) && sumOf(want) > 2 {
				tried++
			}
		}
	})
	if tried < 10000 {
		t.Errorf("only %d times were some of several quarters tried", tried)
	}
}

func TestP7_18Rounding(t *testing.T) {
	up := 0
	eachFlow(18, 1000, func(_ *rand.Rand, b api.MouthBox, flow int) {
		has, parts, want := remaindersBy(b, flow), exactOf(b, flow), 0
		if sumOf(b.Shares) > 0 {
			want = flow
		}
		if len(has) != len(parts) || sumOf(has) != want {
			t.Errorf("%v, %d: Remainders = %v", b, flow, has)
		}
		for quarter, part := range parts {
			above := has[quarter] - part.Num/part.Den
			if above < 0 || above > 1 || above == 1 && part.Den == 1 {
				t.Errorf("%v, %d: Remainders = %v, Exact = %v", b, flow, has, parts)
			}
			up += above
		}
	})
	if up < 1000 {
		t.Errorf("only %d gauges that were left were tried", up)
	}
}

func TestP7_19Alike(t *testing.T) {
	same, more, by := 0, 0, 0
	eachFlow(19, 500, func(r *rand.Rand, b api.MouthBox, flow int) {
		if len(b.Shares) < 2 {
			return
		}
		second := 1 + r.Intn(len(b.Shares)-1)
		first := r.Intn(second)
		b = with(b, func(b *api.MouthBox) { b.Shares[second], b.Mosts[second] = b.Shares[first], b.Mosts[first] })
		has, remainders := gaugesOf(b, flow), remaindersBy(b, flow)
		one, other := has[first]-has[second], remainders[first]-remainders[second]
		if one < 0 || one > 1 || other < 0 || other > 1 {
			t.Errorf("%v, %d: Gauges = %v, Remainders = %v, but %d and %d are alike", b, flow, has, remainders, first, second)
		}
		if one == 0 && has[first] > 0 {
			same++
		}
		more, by = more+one, by+other
	})
	if same < 1000 || more < 1000 || by < 1000 {
		t.Errorf("not all was tried: %d, %d, %d", same, more, by)
	}
}

func TestP7_20Back(t *testing.T) {
	flows, shares := 0, 0
	eachBox(20, 500, func(r *rand.Rand, b api.MouthBox) {
		for quarter := range b.Shares {
			for gauges := 1; gauges <= api.MaxMouthMost; gauges++ {
				from, e := mouths.From(b, quarter, gauges)
				if e == api.OK {
					flows++
					turn, f := mouths.Turn(b, from-1)
					if gaugesOf(b, from)[quarter] != gauges || turn != quarter || f != api.OK {
						t.Errorf("From(%v, %d, %d) = %d; of it Gauges = %v, Turn = %d, %d", b, quarter, gauges, from, gaugesOf(b, from), turn, f)
					}
				} else if last := gaugesOf(b, api.MaxMouthFlow)[quarter]; last >= gauges {
					t.Errorf("From(%v, %d, %d): %d, but it has %d in the end", b, quarter, gauges, e, last)
				}
				flow := r.Intn(api.MaxMouthFlow + 1)
				need, e := mouths.Need(b, quarter, flow, gauges)
				if e == api.OK {
					shares++
				} else {
					need = api.MaxMouthShare + 1
				}
				for share := range api.MaxMouthShare + 1 {
					has := gaugesOf(withShare(b, quarter, share), flow)[quarter]
					if (has >= gauges) != (share >= need) {
						t.Errorf("Need(%v, %d, %d, %d) = %d, but it has %d with the share %d", b, quarter, flow, gauges, need, has, share)
					}
				}
			}
		}
	})
	if flows < 1000 || shares < 1000 {
		t.Errorf("not all was tried: %d, %d", flows, shares)
	}
}
