package subset

import (
	"strconv"

	"scansion/api"
	"scansion/follow"
)

// anySign is in each set.
const anySign uint64 = 1<<64 - 1

// row tells of each mask to which state it leads from some places; meet tells the state that a set of places is.
func row(a api.Auto, at []int, masks []uint64, free bool, meet func(places []int) int) []int {
	// What stands next is the same for all masks, and takes longest where much follows: so it is one step, out of which each mask takes its places.
	next := follow.Step(a, at, anySign)
	l := make([]int, len(masks))
	for i, mask := range masks {
		l[i] = meet(taking(a, next, mask, free))
	}
	return l
}

// taking are those of some places at which a sign may stand; if free, the place 0 is put to them, from which a word begins anew.
func taking(a api.Auto, places []int, sign uint64, free bool) []int {
	l := make([]int, 0, 1+len(places))
	if free {
		l = append(l, follow.Begin()...)
	}
	for _, place := range places {
		// A set below 0, which no expression has, is turned into one beyond all bits: no sign is in it.
		if sign>>uint(a.Sets[place-1])&1 == 1 {
			l = append(l, place)
		}
	}
	return l
}

// written is a list of places as a text, which no other list has.
func written(places []int) string {
	text := make([]byte, 0, 4*len(places)) // places of an expression have three figures at most
	for _, place := range places {
		text = strconv.AppendInt(text, int64(place), 10)
		text = append(text, ' ')
	}
	return string(text)
}
