package shafts_test

import (
	"math/rand"
	"slices"
	"testing"

	"steening/api"
	"steening/shafts"
)

func TestP2_13EachPlan(t *testing.T) {
	r := rand.New(rand.NewSource(13))
	for range 400 {
		s := someShaft(r, 8)
		fewest, e := shafts.Fewest(s)
		cheap, f := shafts.Cheap(s)
		plan, _ := shafts.Plan(s)
		cheapest, _ := shafts.Cheapest(s)
		if e != f || e == api.OK && (!good(s, plan) || !good(s, cheapest)) {
			t.Errorf("%v: Plan = %v, %d; Cheapest = %v, %d", s, plan, e, cheapest, f)
		}
		for _, stops := range stopsOf(len(s.Feet)) {
			_, fall := shafts.Falls(s, stops)
			is := fall == api.ErrNone && (len(s.Feet) == 0 || slices.Contains(stops, len(s.Feet)))
			for _, depth := range stops {
				is = is && s.Rocks[s.Feet[depth-1]].Seat != api.ShaftNone
			}
			if is != good(s, stops) {
				t.Errorf("Good(%v, %v) = %v", s, stops, !is)
			}
			if pence, _, g := shafts.Cost(s, stops); g == api.OK && (e != api.OK || len(stops) < fewest || pence < cheap) {
				t.Errorf("%v: a plan %v of %d pence, but Fewest = %d, %d; Cheap = %d, %d", s, stops, pence, fewest, e, cheap, f)
			}
		}
	}
}

func TestP2_14OneMoreRing(t *testing.T) {
	r := rand.New(rand.NewSource(14))
	more := 0
	for range 3000 {
		s := someShaft(r, 9)
		if len(s.Feet) == 0 {
			continue
		}
		stops := someStops(r, len(s.Feet))
		if plan, e := shafts.Cheapest(s); e == api.OK && r.Intn(2) == 0 {
			stops = plan
		}
		depth := 1 + r.Intn(len(s.Feet))
		if slices.Contains(stops, depth) {
			continue
		}
		with := append(slices.Clone(stops), depth)
		slices.Sort(with)
		if fallOf(s, with) < fallOf(s, stops) {
			t.Errorf("%v: Falls is earlier with %d in %v", s, depth, stops)
		}
		seat := s.Rocks[s.Feet[depth-1]].Seat
		if !good(s, stops) || seat == api.ShaftNone {
			continue
		}
		more++
		pence, hours, _ := shafts.Cost(s, stops)
		if p, h, e := shafts.Cost(s, with); p != pence+seat+depth*s.Haul || h != hours+s.Rest || e != api.OK {
			t.Errorf("Cost(%v, %v) = %d, %d, %d; with %d less %d, %d", s, with, p, h, e, depth, pence, hours)
		}
	}
	if more == 0 {
		t.Error("no plan had one more ring")
	}
}

func TestP2_15Safer(t *testing.T) {
	r := rand.New(rand.NewSource(15))
	fewer, there := 0, 0
	for range 3000 {
		s := someShaft(r, 9)
		safer := clone(s)
		n := r.Intn(len(s.Rocks))
		safer.Rocks[n].Stand = min(api.MaxShaftStand, s.Rocks[n].Stand+1+r.Intn(3))
		stops := someStops(r, len(s.Feet))
		if good(s, stops) && !good(safer, stops) || fallOf(safer, stops) < fallOf(s, stops) {
			t.Errorf("%v: %v with a greater Stand of %d", s, stops, n)
		}
		fewest, e := shafts.Fewest(s)
		cheap, _ := shafts.Cheap(s)
		f, g := shafts.Fewest(safer)
		c, _ := shafts.Cheap(safer)
		if e == api.OK && (g != api.OK || f > fewest || c > cheap) {
			t.Errorf("%v: Fewest = %d, %d; Cheap = %d; with a greater Stand of %d %d, %d; %d", s, fewest, e, cheap, n, f, g, c)
		}
		if e == api.OK && f < fewest && c < cheap {
			fewer++
		}
		if e != g {
			there++
		}
	}
	if fewer == 0 || there == 0 {
		t.Errorf("not all was tried: %d, %d", fewer, there)
	}
}

// dearer returns a shaft in which all money is so many times as great.
func dearer(s api.Shaft, times int) api.Shaft {
	s = clone(s)
	for n := range s.Rocks {
		s.Rocks[n].Pence *= times
		if s.Rocks[n].Seat != api.ShaftNone {
			s.Rocks[n].Seat *= times
		}
	}
	s.Deep *= times
	s.Haul *= times
	return s
}

func TestP2_16OtherMoney(t *testing.T) {
	r := rand.New(rand.NewSource(16))
	for range 2000 {
		s := someShaft(r, 9)
		times := r.Intn(4)
		more := dearer(s, times)
		if shafts.Check(more) != api.OK {
			continue
		}
		fewest, e := shafts.Fewest(s)
		f, g := shafts.Fewest(more)
		if fewest != f || e != g {
			t.Errorf("%v: Fewest = %d, %d; %d times: %d, %d", s, fewest, e, times, f, g)
		}
		cheap, e := shafts.Cheap(s)
		c, g := shafts.Cheap(more)
		if cheap*times != c || e != g {
			t.Errorf("%v: Cheap = %d, %d; %d times: %d, %d", s, cheap, e, times, c, g)
		}
		hours, n := r.Intn(50), r.Intn(len(s.Rocks))
		within, e := shafts.Within(s, hours)
		w, g := shafts.Within(more, hours)
		if within*times != w || e != g {
			t.Errorf("%v: Within %d = %d, %d; %d times: %d, %d", s, hours, within, e, times, w, g)
		}
		next, e := shafts.Next(s, n)
		x, g := shafts.Next(more, n)
		if next*times != x || e != g {
			t.Errorf("%v: Next %d = %d, %d; %d times: %d, %d", s, n, next, e, times, x, g)
		}
	}
}

func TestP2_17Hours(t *testing.T) {
	r := rand.New(rand.NewSource(17))
	for range 400 {
		s := someShaft(r, 9)
		fewest, e := shafts.Fewest(s)
		if e != api.OK {
			continue
		}
		least := fewest * s.Rest
		for _, n := range s.Feet {
			least += s.Rocks[n].Hours
		}
		cheap, _ := shafts.Cheap(s)
		plan, _ := shafts.Cheapest(s)
		_, hours, _ := shafts.Cost(s, plan)
		if w, e := shafts.Within(s, hours); w != cheap || e != api.OK {
			t.Errorf("Within(%v, %d) = %d, %d, not %d", s, hours, w, e, cheap)
		}
		last := -1
		for h := -2; h <= hours+5; h++ {
			w, e := shafts.Within(s, h)
			if (e == api.OK) != (h >= least) || e != api.OK && e != api.ErrNone {
				t.Errorf("Within(%v, %d) = %d, %d, but there are %d hours at the least", s, h, w, e, least)
			}
			if e == api.OK && (w < cheap || last >= 0 && w > last) {
				t.Errorf("Within(%v, %d) = %d; of one hour less %d; Cheap = %d", s, h, w, last, cheap)
			}
			if e == api.OK {
				last = w
			}
		}
	}
}

func TestP2_18InTwoParts(t *testing.T) {
	r := rand.New(rand.NewSource(18))
	parts, fewer := 0, 0
	for range 2000 {
		s := someShaft(r, 10)
		cut := r.Intn(len(s.Feet) + 1)
		below := clone(s)
		below.Feet = below.Feet[cut:]
		a, e := shafts.Fewest(first(s, cut))
		b, f := shafts.Fewest(below)
		whole, g := shafts.Fewest(s)
		if e == api.OK && f == api.OK {
			parts++
			if g != api.OK || whole > a+b {
				t.Errorf("%v: Fewest = %d, %d; cut at %d: %d and %d", s, whole, g, cut, a, b)
			}
			if whole < a+b {
				fewer++
			}
		}
		for _, plan := range plans(s) {
			for n, depth := range plan {
				if !good(first(s, depth), plan[:n+1]) {
					t.Errorf("%v: no plan for the first %d feet", s, depth)
				}
				if _, e := shafts.Fewest(first(s, depth)); e != api.OK {
					t.Errorf("%v: Fewest of the first %d feet: %d", s, depth, e)
				}
			}
		}
	}
	if parts == 0 || fewer == 0 {
		t.Errorf("not all was tried: %d, %d", parts, fewer)
	}
}

func TestP2_19Deeper(t *testing.T) {
	r := rand.New(rand.NewSource(19))
	for range 100 {
		s := someShaft(r, 10)
		last := 0
		for pence := 0; pence <= 400; pence += 1 + r.Intn(5) {
			deep, e := shafts.Deep(s, pence)
			if deep < last || e != api.OK {
				t.Errorf("Deep(%v, %d) = %d, %d; for less %d", s, pence, deep, e, last)
			}
			if cheap, e := shafts.Cheap(first(s, deep)); e != api.OK || cheap > pence {
				t.Errorf("Deep(%v, %d) = %d, but Cheap = %d, %d", s, pence, deep, cheap, e)
			}
			last = deep
		}
	}
}
