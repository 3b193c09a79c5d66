package hours_test

import (
	"math/rand"
	"slices"
	"testing"

	"steening/api"
	"steening/hours"
)

func TestP8_14EachRoster(t *testing.T) {
	none := eachNew(14, 4000, func(_ *rand.Rand, h api.HourRoster, all [][]int) {
		least := leastOf(h)
		for _, l := range all {
			if cost := costOf(h, l); cost < least {
				t.Errorf("%v: Least = %d, but %v costs %d", h, least, l, cost)
			}
		}
		first, fair := firstOf(h), fairOf(h)
		if !isGood(h, first) || costOf(h, first) != least || !isGood(h, fair) || costOf(h, fair) < least {
			t.Errorf("%v: Least = %d, Roster = %v, Fair = %v", h, least, first, fair)
		}
		if lack, e := hours.Lack(h); e != api.ErrNone {
			t.Errorf("%v: Roster = %v, but Lack = %v, %d", h, first, lack, e)
		}
	})
	if none < 200 {
		t.Errorf("only %d rosters of which there is no new one were tried", none)
	}
	eachWithout(14, 4000, func(_ *rand.Rand, h api.HourRoster) {
		lack, e := hours.Lack(h)
		first, f := hours.Roster(h)
		if e != api.OK || f != api.ErrNone {
			t.Errorf("%v: Lack = %v, %d, and Roster = %v, %d", h, lack, e, first, f)
		}
	})
}

// leastCost returns the least Cost of all streets, 0 if there are none.
func leastCost(r api.HourRoster) int {
	var costs []int
	for _, s := range r.Streets {
		costs = append(costs, s.Cost)
	}
	if len(costs) == 0 {
		return 0
	}
	return slices.Min(costs)
}

func TestP8_15AllCanStay(t *testing.T) {
	stay, move, dear := 0, 0, 0
	eachNew(15, 6000, func(_ *rand.Rand, h api.HourRoster, all [][]int) {
		least, far, fewest := leastOf(h), farOf(h), fewestOf(h)
		if slices.ContainsFunc(all, func(l []int) bool { return farthest(h, l) == 0 }) {
			stay++
			if least != 0 || far != 0 || fewest != 0 {
				t.Errorf("%v: nobody must be moved, but Least = %d, Far = %d, Fewest = %d", h, least, far, fewest)
			}
		} else {
			move++
		}
		cost := leastCost(h)
		if (far == 0) != (fewest == 0) || fewest > len(h.Streets) || least < fewest*cost {
			t.Errorf("%v: Least = %d, Far = %d, Fewest = %d", h, least, far, fewest)
		}
		if fewest*cost > 0 {
			dear++
		}
	})
	if stay < 300 || move < 300 || dear < 100 {
		t.Errorf("not all was tried: %d, %d, %d", stay, move, dear)
	}
}

// noGreater fails unless of another roster there is a new one, too, and Least,
// Far and Fewest of it are not greater. It reports whether one of them is less.
func noGreater(t *testing.T, h, other api.HourRoster) bool {
	t.Helper()
	less := false
	for name, call := range map[string]func(r api.HourRoster) (int, api.Errno){"Least": hours.Least, "Far": hours.Far, "Fewest": hours.Fewest} {
		before, _ := call(h)
		after, e := call(other)
		if after > before || e != api.OK {
			t.Errorf("%s of %v = %d, of %v = %d, %d", name, h, before, other, after, e)
		}
		less = less || after < before
	}
	return less
}

func TestP8_16MoreRoom(t *testing.T) {
	roomier, wider := 0, 0
	eachNew(16, 3000, func(r *rand.Rand, h api.HourRoster, all [][]int) {
		var others []api.HourRoster
		for hour, room := range h.Room {
			if room < api.MaxHourStreets {
				others = append(others, withRoom(h, hour, 1+r.Intn(api.MaxHourStreets-room)))
			}
		}
		rooms := len(others)
		for n, s := range h.Streets {
			others = append(others, with(h, func(h *api.HourRoster) {
				h.Streets[n].From = r.Intn(s.From + 1)
				h.Streets[n].To += r.Intn(len(h.Room) - s.To)
			}))
		}
		for n, other := range others {
			for range 5 {
				if l := all[r.Intn(len(all))]; !isGood(other, l) {
					t.Errorf("%v is new of %v, but not of %v", l, h, other)
				}
			}
			less := noGreater(t, h, other)
			if less && n < rooms {
				roomier++
			} else if less {
				wider++
			}
		}
	})
	if roomier < 300 || wider < 100 {
		t.Errorf("not all was tried: %d, %d", roomier, wider)
	}
}

func TestP8_17OneStreetLess(t *testing.T) {
	less := 0
	eachNew(17, 4000, func(_ *rand.Rand, h api.HourRoster, _ [][]int) {
		moves := movesOf(h, firstOf(h))
		for n, s := range h.Streets {
			other := without(h, n)
			noGreater(t, h, other)
			saved := leastOf(h) - leastOf(other)
			if saved < moves[n]*s.Cost {
				t.Errorf("%v: Roster = %v, but without %d Least is less by %d", h, firstOf(h), n, saved)
			}
			if saved > moves[n]*s.Cost {
				less++
			}
		}
	})
	if less < 300 {
		t.Errorf("only %d streets in the way of others were tried", less)
	}
}

func TestP8_18Exchanges(t *testing.T) {
	swaps := 0
	eachNew(18, 4000, func(r *rand.Rand, h api.HourRoster, all [][]int) {
		if swap, e := hours.Swap(h, firstOf(h)); swap != pair(0, 0) || e != api.ErrNone {
			t.Errorf("%v: Swap of Roster = %v, %d", h, swap, e)
		}
		for range 10 {
			l := all[r.Intn(len(all))]
			swap, e := hours.Swap(h, l)
			if e != api.OK {
				continue
			}
			swaps++
			if swap.A < 0 || swap.A >= swap.B || swap.B >= len(l) {
				t.Errorf("Swap(%v, %v) = %v", h, l, swap)
				continue
			}
			other := exchanged(l, swap.A, swap.B)
			if !isGood(h, other) || costOf(h, other) >= costOf(h, l) {
				t.Errorf("Swap(%v, %v) = %v, which makes %v", h, l, swap, other)
			}
		}
	})
	if swaps < 500 {
		t.Errorf("only %d exchanges were tried", swaps)
	}
}

// turned returns a roster with the hours turned around.
func turned(r api.HourRoster) api.HourRoster {
	last := len(r.Room) - 1
	return with(r, func(r *api.HourRoster) {
		slices.Reverse(r.Room)
		for n, s := range r.Streets {
			if s.Has != api.HourNone {
				r.Streets[n].Has = last - s.Has
			}
			r.Streets[n].From, r.Streets[n].To = last-s.To, last-s.From
		}
	})
}

// sameFor fails unless a function returns the same for two rosters.
func sameFor[T comparable](t *testing.T, name string, h, other api.HourRoster, call func(r api.HourRoster) (T, api.Errno)) {
	t.Helper()
	before, e := call(h)
	after, f := call(other)
	if before != after || e != f {
		t.Errorf("%s of %v = %v, %d; of %v = %v, %d", name, h, before, e, other, after, f)
	}
}

func TestP8_19OtherHours(t *testing.T) {
	none, some := 0, 0
	eachRoster(19, 5000, func(r *rand.Rand, h api.HourRoster) {
		around := turned(h)
		mixed := with(h, func(h *api.HourRoster) {
			r.Shuffle(len(h.Streets), func(a, b int) { h.Streets[a], h.Streets[b] = h.Streets[b], h.Streets[a] })
		})
		for _, other := range []api.HourRoster{around, mixed} {
			sameFor(t, "Least", h, other, hours.Least)
			sameFor(t, "Far", h, other, hours.Far)
			sameFor(t, "Fewest", h, other, hours.Fewest)
		}
		sameFor(t, "Lack", h, mixed, hours.Lack)
		for n := range h.Streets {
			sameFor(t, "Bound", h, around, func(r api.HourRoster) (int, api.Errno) { return hours.Bound(r, n) })
		}
		for hour := range h.Room {
			give, e := hours.Give(h, hour)
			same, f := hours.Give(around, len(h.Room)-1-hour)
			if give != same || e != f {
				t.Errorf("Give of %d of %v = %d, %d, turned around = %d, %d", hour, h, give, e, same, f)
			}
		}
		if _, e := hours.Least(h); e == api.OK {
			some++
		} else {
			none++
		}
	})
	if some < 500 || none < 500 {
		t.Errorf("not all was tried: %d, %d", some, none)
	}
}

func TestP8_20GivingRoom(t *testing.T) {
	full, helps := 0, 0
	eachNew(20, 3000, func(_ *rand.Rand, h api.HourRoster, all [][]int) {
		least := leastOf(h)
		for hour, room := range h.Room {
			give, e := hours.Give(h, hour)
			if give < 0 || give > least {
				t.Errorf("%v: Least = %d, but Give of %d = %d, %d", h, least, hour, give, e)
			}
			isFull := true
			for _, l := range all {
				draw := 0
				for _, other := range l {
					if other == hour {
						draw++
					}
				}
				isFull = isFull && (draw == room || costOf(h, l) > least)
			}
			if give > 0 {
				helps++
				if !isFull {
					t.Errorf("%v: Give of %d = %d, but it is not full in each new roster that costs %d", h, hour, give, least)
				}
			} else if isFull {
				full++
			}
		}
	})
	if full < 300 || helps < 300 {
		t.Errorf("not all was tried: %d, %d", full, helps)
	}
}
