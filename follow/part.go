package follow

import "scansion/api"

// part is what is told of an expression that stands within the whole one: whether the empty word is one of its words, the places with which its traces begin and end, and how many places the whole one has up to its end.
type part struct {
	null        bool
	first, last places
	upTo        int
}

// read tells a part, ahead of which there are so many places. All that follows within it is noted: each place of the second list follows each one of the first.
func read(n api.Node, count int, note func(ahead, behind places)) part {
	switch n.Kind {
	case api.NodeSet:
		here := places{count + 1}
		return part{first: here, last: here, upTo: count + 1}
	case api.NodeCat:
		return inTurn(n.Kids, count, note)
	case api.NodeAlt:
		return oneOf(n.Kids, count, note)
	}
	p := read(n.Kids[0], count, note)
	if n.Kind != api.NodeOpt {
		note(p.last, p.first)
	}
	p.null = p.null || n.Kind != api.NodePlus
	return p
}

// inTurn tells parts that stand one behind the other as one. Where a part may be the empty word, what stands ahead of it ends the whole, and what stands behind it begins it, too.
func inTurn(kids []api.Node, count int, note func(ahead, behind places)) part {
	whole := part{null: true, upTo: count}
	for _, kid := range kids {
		p := read(kid, whole.upTo, note)
		note(whole.last, p.first)
		if whole.null {
			whole.first = whole.first.join(p.first)
		}
		if p.null {
			p.last = whole.last.join(p.last)
		}
		whole.last, whole.upTo = p.last, p.upTo
		whole.null = whole.null && p.null
	}
	return whole
}

// oneOf tells parts any of which may stand as one.
func oneOf(kids []api.Node, count int, note func(ahead, behind places)) part {
	whole := part{upTo: count}
	for _, kid := range kids {
		p := read(kid, whole.upTo, note)
		whole.first, whole.last = whole.first.join(p.first), whole.last.join(p.last)
		whole.null = whole.null || p.null
		whole.upTo = p.upTo
	}
	return whole
}
