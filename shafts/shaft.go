package shafts

import "steening/api"

// valid reports whether a shaft is valid.
func valid(s api.Shaft) bool {
	if len(s.Rocks) > api.MaxShaftRocks || len(s.Feet) > api.MaxShaftFeet {
		return false
	}
	for _, r := range s.Rocks {
		if !isRock(r) {
			return false
		}
	}
	for _, rock := range s.Feet {
		if rock < 0 || rock >= len(s.Rocks) {
			return false
		}
	}
	return upTo(s.Deep, api.MaxShaftDeep) && upTo(s.Haul, api.MaxShaftHaul) && upTo(s.Rest, api.MaxShaftRest)
}

// isRock reports whether the numbers of a rock are such as can be.
func isRock(r api.ShaftRock) bool {
	seat := r.Seat == api.ShaftNone || upTo(r.Seat, api.MaxShaftSeat)
	return seat && upTo(r.Hours, api.MaxShaftHours) && upTo(r.Pence, api.MaxShaftPence) && upTo(r.Stand, api.MaxShaftStand)
}

// upTo reports whether a number is from 0 to another one.
func upTo(n, most int) bool {
	return 0 <= n && n <= most
}

// firstFeet returns the shaft of the first feet of a valid one.
func firstFeet(s api.Shaft, feet int) api.Shaft {
	s.Feet = s.Feet[:feet]
	return s
}

// deeper returns a valid shaft with one more foot, of a rock.
func deeper(s api.Shaft, rock int) api.Shaft {
	n := len(s.Feet)
	// The third index makes append copy the feet: the memory behind them is the caller's.
	s.Feet = append(s.Feet[:n:n], rock)
	return s
}
