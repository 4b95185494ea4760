package follow

import (
	"math/bits"
	"slices"
)

// places are a list of places of an expression.
type places []int

// join is a list and one whose places all are greater. It may be one of the two lists themselves: neither is changed by anyone.
func (p places) join(q places) places {
	if len(p) == 0 {
		return q
	}
	if len(q) == 0 {
		return p
	}
	return slices.Concat(p, q)
}

// marked are places, as marks of those from 0 to the last one that there is.
func (p places) marked(last int) marks {
	m := newMarks(last)
	m.put(p)
	return m
}

// marks tell which places are met, a bit for each: they are put together faster than lists, and told in order.
type marks struct {
	last int
	bits []uint64
}

func newMarks(last int) marks { return marks{last, make([]uint64, last/64+1)} }

// put marks places; what is none is left out.
func (m marks) put(p places) {
	for _, at := range p {
		if 0 <= at && at <= m.last {
			m.bits[at/64] |= 1 << (at % 64)
		}
	}
}

// join marks what is marked in others of as many places.
func (m marks) join(o marks) {
	for i := range m.bits {
		m.bits[i] |= o.bits[i]
	}
}

// list are the places that are marked, rising.
func (m marks) list() places {
	var l places
	for i, left := range m.bits {
		for ; left != 0; left &= left - 1 {
			l = append(l, 64*i+bits.TrailingZeros64(left))
		}
	}
	return l
}
