package mouths

import "steening/api"

// exact returns what part of a flow a quarter has, exactly.
func exact(b api.MouthBox, quarter, flow int) api.Ratio {
	all := sum(b.Shares...)
	if all == 0 {
		return api.Ratio{Num: 0, Den: 1}
	}
	return lowest(flow*b.Shares[quarter], all)
}

// lowest returns a fraction of numbers from 0 on, Den above 0, in lowest terms.
func lowest(num, den int) api.Ratio {
	a, b := num, den
	for b != 0 {
		a, b = b, a%b
	}
	return api.Ratio{Num: num / a, Den: den / a}
}

// byRemainders returns how many gauges each quarter of a valid box has of a
// flow by remainders.
func byRemainders(b api.MouthBox, flow int) division {
	var has, cut division
	all := sum(b.Shares...)
	if all == 0 {
		return has
	}
	for quarter, share := range b.Shares {
		has[quarter], cut[quarter] = flow*share/all, flow*share%all
	}
	for range flow - sum(has[:]...) {
		quarter := greatest(cut[:]...)
		has[quarter]++
		// What was cut off, of all quarters together, is as many gauges as are
		// left, and of each quarter less than one: so there is always another
		// quarter of which something was cut off.
		cut[quarter] = 0
	}
	return has
}

// isParadox reports whether by remainders some quarter has more of a flow than
// of a flow of one gauge more.
func isParadox(b api.MouthBox, flow int) bool {
	less, more := byRemainders(b, flow), byRemainders(b, flow+1)
	for quarter := range less {
		if less[quarter] > more[quarter] {
			return true
		}
	}
	return false
}
