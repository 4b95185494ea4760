package syntax

import (
	"slices"

	"scansion/api"
	"scansion/ranges"
)

// areSets tells whether each one is a set, and none of them is there twice.
func areSets(l [][]api.Range) bool {
	for i, s := range l {
		made, e := ranges.Make(s)
		if e != api.OK || !slices.Equal(made, s) {
			return false
		}
		if slices.ContainsFunc(l[:i], func(x []api.Range) bool { return slices.Equal(x, s) }) {
			return false
		}
	}
	return true
}

// checker goes through expressions in the order in which they are printed.
type checker struct {
	met int // how many sets were met, which are the first ones
}

// mayBe tells whether an expression may be that stands in so many brackets, and is the part of so many signs, one behind the other. Both are held against their limits on the way down, so that expressions of any depth come to an end soon.
func (c *checker) mayBe(n api.Node, depth, signs int) bool {
	if n.Kind == api.NodeSet {
		return len(n.Kids) == 0 && c.meets(n.Set)
	}
	if signOf(n.Kind) != "" {
		signs++
	} else {
		signs = 0
	}
	if n.Set != 0 || signs > api.MaxSigns || !hasParts(n) {
		return false
	}
	for _, part := range n.Kids {
		within := depth
		if inBrackets(part.Kind, n.Kind) {
			within++
		}
		if within > api.MaxDepth || !c.mayBe(part, within, signs) {
			return false
		}
	}
	return true
}

// meets tells whether a set is one that was met already, or the next one. Whether there are so many is told when all were met.
func (c *checker) meets(place int) bool {
	if place == c.met {
		c.met++
	}
	return 0 <= place && place < c.met
}

// hasParts tells whether an expression that is no set has as many parts as its kind asks for; one of no kind never has.
func hasParts(n api.Node) bool {
	count := len(n.Kids)
	switch n.Kind {
	case api.NodeCat:
		return count != 1
	case api.NodeAlt:
		return count >= 2
	}
	return signOf(n.Kind) != "" && count == 1
}
