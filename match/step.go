package match

import (
	"slices"

	"scansion/api"
)

// step leads from places of a word to those at which words of an expression end that begin there. It is taken through one word alone, and may be taken again from other places: what it told of the earlier ones it need not tell once more.
type step func(from places) places

// through is the step of an expression that may be.
func through(n api.Node, word []uint64) step {
	parts := make([]step, len(n.Kids))
	for i, part := range n.Kids {
		parts[i] = through(part, word)
	}
	switch n.Kind {
	case api.NodeSet:
		return overSign(word, n.Set)
	case api.NodeAlt:
		return joined(places.join, parts...)
	case api.NodeStar:
		return joined(places.join, stay, again(word, parts[0]))
	case api.NodePlus:
		return again(word, parts[0])
	case api.NodeOpt:
		return joined(places.join, stay, parts[0])
	}
	return inTurn(parts)
}

// stay is the step of the empty word.
func stay(from places) places { return from }

// overSign goes over one sign that is in a set.
func overSign(word []uint64, set int) step {
	return func(from places) places {
		var to places
		for _, at := range from {
			if at < len(word) && word[at]>>set&1 == 1 {
				to = append(to, at+1)
			}
		}
		return to
	}
}

// inTurn takes steps one behind the other.
func inTurn(parts []step) step {
	return func(at places) places {
		for _, part := range parts {
			if len(at) == 0 {
				break
			}
			at = part(at)
		}
		return at
	}
}

// joined takes each step from the same places, and joins the places to which they lead.
func joined(join func(p, q places) places, parts ...step) step {
	return func(from places) places {
		var to places
		for _, part := range parts {
			to = join(to, part(from))
		}
		return to
	}
}

// again takes a step, and goes on with it from where it led to, until it leads no further. It is taken but once from each place, however often and in whatever steps this one is taken again: else the time would double with each of them that stands in another one.
func again(word []uint64, part step) step {
	taken := newMarks(word)
	return func(from places) places {
		var to places
		for fresh := taken.put(from); len(fresh) > 0; {
			next := part(fresh)
			to = append(to, next...)
			fresh = taken.put(next)
		}
		slices.Sort(to)
		return slices.Compact(to)
	}
}
