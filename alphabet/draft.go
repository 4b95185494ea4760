package alphabet

import (
	"slices"

	"scansion/api"
	"scansion/trie"
)

// draft is an alphabet while numbers are gone through, from 0 on: so classes are met by their least numbers, rising.
type draft struct {
	rests   [][]api.Range  // of each set: the ranges that may have numbers that were not gone through yet
	known   map[uint64]int // the class of each mask that was met
	masks   []uint64
	least   []int
	entries []api.Prop
}

// newDraft has met no number. It goes through the sets by lists of its own, so that these stay as they are.
func newDraft(sets [][]api.Range) *draft {
	return &draft{rests: slices.Clone(sets), known: map[uint64]int{}}
}

// take puts the numbers from low on into their class, as far as they have one mask, and tells the last one of them.
func (d *draft) take(low int) (int, api.Errno) {
	mask, high := d.stretch(low)
	class, there := d.known[mask]
	if !there {
		class = len(d.masks)
		if class == api.MaxClass {
			return 0, api.ErrFull
		}
		d.known[mask] = class
		d.masks = append(d.masks, mask)
		d.least = append(d.least, low)
	}
	d.entries = append(d.entries, api.Prop{Low: low, High: high, Value: byte(class)})
	return high, api.OK
}

// stretch tells the mask of low, and the last number up to which all have it.
func (d *draft) stretch(low int) (mask uint64, high int) {
	high = api.MaxRune
	for i := range len(d.rests) {
		rest := d.rests[i]
		if len(rest) > 0 && rest[0].High < low {
			rest = rest[1:] // one is enough: no stretch reaches over the end of a range
			d.rests[i] = rest
		}
		switch {
		case len(rest) == 0:
		case low < rest[0].Low:
			high = min(high, rest[0].Low-1)
		default:
			mask |= 1 << i
			high = min(high, rest[0].High)
		}
	}
	return mask, high
}

// finish is the alphabet of what was met. The ranges of the class 0 are entries, too, though a trie tells 0 without them: so how many ranges there may be does not hang on which class has the number 0.
func (d *draft) finish() (*Alphabet, api.Errno) {
	classes, e := trie.Build(d.entries)
	if e != api.OK {
		return nil, e
	}
	return &Alphabet{masks: d.masks, least: d.least, classes: classes}, api.OK
}
