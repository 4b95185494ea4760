package least_test

import (
	"math/rand"
	"slices"
	"strconv"

	"scansion/api"
)

// What the chapter tells, plainly: pairs of states are marked as apart till none is marked any more, and words are tried one by one.

// takes tells whether a state takes a word.
func takes(d api.Dfa, at int, word []int) bool {
	for _, class := range word {
		at = d.Next[at][class]
	}
	return d.Final[at]
}

// apartTable tells of each two states whether they are not alike.
func apartTable(d api.Dfa) [][]bool {
	table := make([][]bool, len(d.Next))
	for p := range table {
		table[p] = make([]bool, len(d.Next))
		for q := range table[p] {
			table[p][q] = d.Final[p] != d.Final[q]
		}
	}
	for more := true; more; {
		more = false
		for p := range table {
			for q := range table[p] {
				for class := range d.Next[p] {
					if !table[p][q] && table[d.Next[p][class]][d.Next[q][class]] {
						table[p][q], more = true, true
					}
				}
			}
		}
	}
	return table
}

// plainLeast is what Least should tell.
func plainLeast(d api.Dfa) api.Dfa {
	part := make([]int, len(d.Next))
	for p, apart := range apartTable(d) {
		part[p] = slices.Index(apart, false) // the first state alike
	}
	return quotient(d, part)
}

// quotient are states of which those of one part are one, counted as they are met.
func quotient(d api.Dfa, part []int) api.Dfa {
	met, number := []int{0}, map[int]int{part[0]: 0}
	var l api.Dfa
	for at := 0; at < len(met); at++ {
		var row []int
		for _, to := range d.Next[met[at]] {
			state, there := number[part[to]]
			if !there {
				state = len(met)
				met, number[part[to]] = append(met, to), state
			}
			row = append(row, state)
		}
		l.Next = append(l.Next, row)
		l.Final = append(l.Final, d.Final[met[at]])
	}
	return l
}

// leastByRounds is the same for many states: those are told apart by words of no classes, of one, of two .., by whole rows.
func leastByRounds(d api.Dfa) api.Dfa {
	part, count := make([]int, len(d.Next)), 0
	for state, final := range d.Final {
		if final {
			part[state] = 1
		}
	}
	for {
		known := map[string]int{}
		next := make([]int, len(part))
		for state, row := range d.Next {
			text := []byte(strconv.Itoa(part[state]))
			for _, to := range row {
				text = append(text, ',')
				text = strconv.AppendInt(text, int64(part[to]), 10)
			}
			if _, there := known[string(text)]; !there {
				known[string(text)] = len(known)
			}
			next[state] = known[string(text)]
		}
		if len(known) == count {
			return quotient(d, part)
		}
		part, count = next, len(known)
	}
}

// plainApart is what Apart should tell, by all pairs of states that the same words lead to.
func plainApart(a, b api.Dfa) ([]int, bool) {
	type way struct {
		p, q int
		word []int
	}
	ways, seen := []way{{}}, map[[2]int]bool{{}: true}
	for i := 0; i < len(ways); i++ {
		w := ways[i]
		if a.Final[w.p] != b.Final[w.q] {
			return w.word, true
		}
		for class, p := range a.Next[w.p] {
			q := b.Next[w.q][class]
			if !seen[[2]int{p, q}] {
				seen[[2]int{p, q}] = true
				ways = append(ways, way{p, q, append(slices.Clone(w.word), class)})
			}
		}
	}
	return nil, false
}

// firstOf is the first one of some words that one of two has, and the other not.
func firstOf(words [][]int, a, b api.Dfa) ([]int, bool) {
	for _, w := range words {
		if takes(a, 0, w) != takes(b, 0, w) {
			return w, true
		}
	}
	return nil, false
}

// taken tells by a bit for each of at most 64 words whether states have it.
func taken(words [][]int, d api.Dfa) uint64 {
	var bits uint64
	for i, w := range words {
		if takes(d, 0, w) {
			bits |= 1 << i
		}
	}
	return bits
}

// Expressions, words and states for tests.

// words are all words of so many classes up to a length: by length, and of one length by classes.
func words(classes, most int) [][]int {
	l := [][]int{nil}
	for from := 0; most > 0; most-- {
		to := len(l)
		for _, w := range l[from:to] {
			for class := range classes {
				l = append(l, append(slices.Clone(w), class))
			}
		}
		from = to
	}
	return l
}

// allStates are all states that may be, so many of so many classes.
func allStates(states, classes int) []api.Dfa {
	l := []api.Dfa{{}}
	for range states {
		var more []api.Dfa
		for _, d := range l {
			for _, row := range rows(states, classes) {
				for _, final := range []bool{false, true} {
					more = append(more, api.Dfa{Next: append(slices.Clone(d.Next), row), Final: append(slices.Clone(d.Final), final)})
				}
			}
		}
		l = more
	}
	return l
}

// rows are all lists of so many numbers below a number.
func rows(below, count int) [][]int {
	all := words(below, count)
	return slices.DeleteFunc(all, func(l []int) bool { return len(l) != count })
}

// ofSize are all expressions of so many nodes, of the sets 0 and 1, with at most two parts each; known are those of fewer nodes.
func ofSize(size int, known [][]api.Node) []api.Node {
	if size == 1 {
		return []api.Node{set(0), set(1), cat()}
	}
	var l []api.Node
	for _, x := range known[size-1] {
		l = append(l, star(x), plus(x), opt(x), cat(x), alt(x))
	}
	for i := 1; i < size-1; i++ {
		for _, x := range known[i] {
			for _, y := range known[size-1-i] {
				l = append(l, cat(x, y), alt(x, y))
			}
		}
	}
	return l
}

// upTo are all expressions of at most so many nodes.
func upTo(size int) []api.Node {
	known := make([][]api.Node, size+1)
	var l []api.Node
	for i := 1; i <= size; i++ {
		known[i] = ofSize(i, known)
		l = append(l, known[i]...)
	}
	return l
}

func set(i int) api.Node             { return api.Node{Kind: api.NodeSet, Set: i} }
func cat(parts ...api.Node) api.Node { return api.Node{Kind: api.NodeCat, Kids: parts} }
func alt(parts ...api.Node) api.Node { return api.Node{Kind: api.NodeAlt, Kids: parts} }
func star(part api.Node) api.Node    { return api.Node{Kind: api.NodeStar, Kids: []api.Node{part}} }
func plus(part api.Node) api.Node    { return api.Node{Kind: api.NodePlus, Kids: []api.Node{part}} }
func opt(part api.Node) api.Node     { return api.Node{Kind: api.NodeOpt, Kids: []api.Node{part}} }

// many are so many expressions that are the same.
func many(n api.Node, count int) []api.Node { return slices.Repeat([]api.Node{n}, count) }

// toFirst are so many states, whose classes all lead to the first one.
func toFirst(states, classes int) api.Dfa {
	d := api.Dfa{Final: make([]bool, states)}
	for range states {
		d.Next = append(d.Next, make([]int, classes))
	}
	return d
}

// stepping are states that lead, by each class, where a function tells.
func stepping(states, classes int, to func(state, class int) int, final func(state int) bool) api.Dfa {
	d := toFirst(states, classes)
	for state, row := range d.Next {
		for class := range row {
			row[class] = to(state, class)
		}
		d.Final[state] = final(state)
	}
	return d
}

// chain are states each of which leads to the next one, the last one, which alone is Final, to itself.
func chain(states, classes int) api.Dfa {
	return stepping(states, classes, func(state, _ int) int { return min(state+1, states-1) }, func(state int) bool { return state == states-1 })
}

// circle are states each of which leads to the next one, and the last one to the first one.
func circle(states, classes int, final func(state int) bool) api.Dfa {
	return stepping(states, classes, func(state, _ int) int { return (state + 1) % states }, final)
}

func all(int) bool  { return true }
func none(int) bool { return false }

// drawnStates are any, drawn by lot, so many of so many classes; one of so many is Final.
func drawnStates(r *rand.Rand, states, classes, finals int) api.Dfa {
	return stepping(states, classes, func(int, int) int { return r.Intn(states) }, func(int) bool { return r.Intn(finals) == 0 })
}

// blown are states of the same words, so many, each of which is like one of the given ones: the first one like the first one, all in an order drawn by lot.
func blown(r *rand.Rand, d api.Dfa, states int) api.Dfa {
	like := make([]int, states)
	copies := make([][]int, len(d.Next))
	order := r.Perm(states - 1)
	for i := range states {
		state := 0
		if i > 0 {
			state = 1 + order[i-1]
		}
		like[state] = i % len(d.Next)
		copies[like[state]] = append(copies[like[state]], state)
	}
	return stepping(states, len(d.Next[0]), func(state, class int) int {
		l := copies[d.Next[like[state]][class]]
		return l[r.Intn(len(l))]
	}, func(state int) bool { return d.Final[like[state]] })
}

// shuffled are the same states in another order, but the first one.
func shuffled(r *rand.Rand, d api.Dfa) api.Dfa {
	number := []int{0}
	for _, i := range r.Perm(len(d.Next) - 1) {
		number = append(number, i+1)
	}
	l := toFirst(len(d.Next), len(d.Next[0]))
	for state, row := range d.Next {
		for class, to := range row {
			l.Next[number[state]][class] = number[to]
		}
		l.Final[number[state]] = d.Final[state]
	}
	return l
}

// copied are states that share nothing with others.
func copied(d api.Dfa) api.Dfa {
	d.Next, d.Final = slices.Clone(d.Next), slices.Clone(d.Final)
	for i, row := range d.Next {
		d.Next[i] = slices.Clone(row)
	}
	return d
}

// same tells whether two are the same; lists of none, nil or empty, are the same.
func same(a, b api.Dfa) bool {
	return slices.Equal(a.Final, b.Final) && slices.EqualFunc(a.Next, b.Next, func(l, m []int) bool { return slices.Equal(l, m) })
}

// text is what two states are the same by.
func text(d api.Dfa) string {
	var b []byte
	for state, row := range d.Next {
		b = strconv.AppendBool(append(b, ';'), d.Final[state])
		for _, to := range row {
			b = strconv.AppendInt(append(b, ','), int64(to), 10)
		}
	}
	return string(b)
}
