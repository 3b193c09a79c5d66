package quarrels

import "math/bits"

// worlds are some worlds of a town; each of them is the bit of its number.
type worlds uint

// with returns the worlds with one more.
func (some worlds) with(world int) worlds {
	return some | 1<<world
}

// count returns how many worlds there are.
func (some worlds) count() int {
	return bits.OnesCount(uint(some))
}

// each yields the numbers of the worlds, ascending.
func (some worlds) each(yield func(world int) bool) {
	for ; some != 0; some &= some - 1 {
		if !yield(bits.TrailingZeros(uint(some))) {
			return
		}
	}
}
