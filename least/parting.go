package least

import (
	"slices"
	"strconv"

	"scansion/api"
)

// parting is states in parts: those of one part were not told apart.
type parting struct {
	part    []int    // of each state: its part
	members [][]int  // of each part: its states
	into    []chains // of each class: which states lead to which
	ways    [][]byte // of each state: the classes by which it leads to the part that is looked at; none between
}

// chains are, of each state, those that lead to it. As there may be a million, they have no lists of their own.
type chains struct {
	first, next []int // of each state: the first one that leads to it; the one behind it that leads where it leads; -1: none
}

// partsOf tells of each state its part, where two are of the same one just if they are alike.
func partsOf(d api.Dfa) []int {
	p := newParting(d)
	p.leave(finals(d))
	// Of what was one part, all but one have numbers that are still ahead. The one left over need not be looked at: what leads to the whole, and to none of the others, leads there.
	for to := 1; to < len(p.members); to++ {
		for _, group := range p.leading(to) {
			p.leave(group)
		}
	}
	return p.part
}

// newParting has all states in one part.
func newParting(d api.Dfa) *parting {
	states := len(d.Next)
	p := &parting{part: make([]int, states), members: [][]int{make([]int, states)}, ways: make([][]byte, states)}
	for state := range states {
		p.members[0][state] = state
	}
	for class := range d.Next[0] {
		p.into = append(p.into, newChains(d, class))
	}
	return p
}

func newChains(d api.Dfa, class int) chains {
	c := chains{first: slices.Repeat([]int{-1}, len(d.Next)), next: make([]int, len(d.Next))}
	for from, row := range d.Next {
		to := row[class]
		c.first[to], c.next[from] = from, c.first[to]
	}
	return c
}

func finals(d api.Dfa) []int {
	var l []int
	for state, final := range d.Final {
		if final {
			l = append(l, state)
		}
	}
	return l
}

// leading are the states that lead to a part: those of one part, that lead there by the same classes, are one group.
func (p *parting) leading(to int) [][]int {
	var groups [][]int
	known := map[string]int{}
	for _, state := range p.noteWays(to) {
		text := strconv.Itoa(p.part[state]) + " " + string(p.ways[state])
		p.ways[state] = p.ways[state][:0]
		group, there := known[text]
		if !there {
			group = len(groups)
			known[text] = group
			groups = append(groups, nil)
		}
		groups[group] = append(groups[group], state)
	}
	return groups
}

// noteWays notes the ways of all states that lead to a part, the classes rising, and tells these states.
func (p *parting) noteWays(to int) []int {
	var states []int
	for class, into := range p.into {
		for _, member := range p.members[to] {
			for state := into.first[member]; state >= 0; state = into.next[state] {
				if len(p.ways[state]) == 0 {
					states = append(states, state)
				}
				p.ways[state] = append(p.ways[state], byte(class)) // api.MaxClass is below 256
			}
		}
	}
	return states
}

// leave parts a group of states from the others of their part, if there are both.
func (p *parting) leave(group []int) {
	if len(group) == 0 || len(group) == len(p.members[p.part[group[0]]]) {
		return
	}
	old, added := p.part[group[0]], len(p.members)
	p.put(group, added)
	rest := slices.DeleteFunc(p.members[old], func(state int) bool { return p.part[state] == added })
	// The smaller ones get the new number, and are looked at (again): so each state is looked at but a few times.
	if len(rest) < len(group) {
		group, rest = rest, group
		p.put(group, added)
		p.put(rest, old)
	}
	p.members[old] = rest
	p.members = append(p.members, group)
}

func (p *parting) put(states []int, part int) {
	for _, state := range states {
		p.part[state] = part
	}
}
