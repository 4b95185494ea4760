package follow_test

import (
	"slices"

	"scansion/api"
	"scansion/match"
)

// The traces of an expression as the chapter tells them: all of them up to a length. A place is a byte here, so that traces are texts.

type traces map[string]bool

// numbered is an expression each of whose sets is the number of its place, from some number on, and the next number.
func numbered(n api.Node, next int) (api.Node, int) {
	if n.Kind == api.NodeSet {
		return set(next), next + 1
	}
	n.Kids = slices.Clone(n.Kids)
	for i, kid := range n.Kids {
		n.Kids[i], next = numbered(kid, next)
	}
	return n, next
}

// tracesOf are those of an expression whose sets are numbers of places.
func tracesOf(n api.Node, most int) traces {
	switch n.Kind {
	case api.NodeSet:
		if most == 0 {
			return traces{}
		}
		return traces{string([]byte{byte(n.Set)}): true}
	case api.NodeAlt:
		l := traces{}
		for _, part := range n.Kids {
			for w := range tracesOf(part, most) {
				l[w] = true
			}
		}
		return l
	case api.NodeOpt:
		l := tracesOf(n.Kids[0], most)
		l[""] = true
		return l
	case api.NodeStar:
		return anyNumber(tracesOf(n.Kids[0], most), most)
	case api.NodePlus:
		part := tracesOf(n.Kids[0], most)
		return oneBehind(part, anyNumber(part, most), most)
	}
	l := traces{"": true}
	for _, part := range n.Kids {
		l = oneBehind(l, tracesOf(part, most), most)
	}
	return l
}

func oneBehind(first, second traces, most int) traces {
	l := traces{}
	for v := range first {
		for w := range second {
			if len(v)+len(w) <= most {
				l[v+w] = true
			}
		}
	}
	return l
}

func anyNumber(part traces, most int) traces {
	l := traces{"": true}
	for {
		before := len(l)
		for w := range oneBehind(l, part, most) {
			l[w] = true
		}
		if len(l) == before {
			return l
		}
	}
}

// byTraces is what Build should tell, by the traces up to twice as many places as there are: in longer ones nothing follows that doesn't in these.
func byTraces(n api.Node) api.Auto {
	m, next := numbered(n, 1)
	l := tracesOf(m, 2*(next-1))
	first, last, follow := map[int]bool{}, map[int]bool{}, map[[2]int]bool{}
	for w := range l {
		if w == "" {
			continue
		}
		first[int(w[0])], last[int(w[len(w)-1])] = true, true
		for i := 1; i < len(w); i++ {
			follow[[2]int{int(w[i-1]), int(w[i])}] = true
		}
	}
	return gathered(n, l[""], func(p int) bool { return first[p] }, func(p int) bool { return last[p] }, func(p, q int) bool { return follow[[2]int{p, q}] })
}

// byMatch is the same by the words of the expression whose places have each a set of its own (at most 64 places): a sign of one bit is at one place alone, and one of all bits at any.
func byMatch(n api.Node) api.Auto {
	m, next := numbered(n, 0)
	has := func(middle ...uint64) bool {
		for ahead := range next + 1 {
			for behind := range next + 1 {
				w := append(slices.Repeat([]uint64{1<<64 - 1}, ahead), middle...)
				if match.Whole(m, append(w, slices.Repeat([]uint64{1<<64 - 1}, behind)...)) {
					return true
				}
			}
		}
		return false
	}
	side := func(turned bool) func(p int) bool {
		return func(p int) bool {
			for more := range next + 1 {
				w := append([]uint64{1 << (p - 1)}, slices.Repeat([]uint64{1<<64 - 1}, more)...)
				if turned {
					slices.Reverse(w)
				}
				if match.Whole(m, w) {
					return true
				}
			}
			return false
		}
	}
	return gathered(n, match.Whole(n, nil), side(false), side(true), func(p, q int) bool { return has(1<<(p-1), 1<<(q-1)) })
}

// gathered writes down of all places what holds of them.
func gathered(n api.Node, null bool, first, last func(p int) bool, follow func(p, q int) bool) api.Auto {
	a := api.Auto{Null: null, Sets: setsIn(n)}
	for p := 1; p <= len(a.Sets); p++ {
		if first(p) {
			a.First = append(a.First, p)
		}
		if last(p) {
			a.Last = append(a.Last, p)
		}
		var behind []int
		for q := 1; q <= len(a.Sets); q++ {
			if follow(p, q) {
				behind = append(behind, q)
			}
		}
		a.Follow = append(a.Follow, behind)
	}
	return a
}

func setsIn(n api.Node) []int {
	var l []int
	todo := []api.Node{n}
	for len(todo) > 0 {
		n, todo = todo[0], todo[1:]
		if n.Kind == api.NodeSet {
			l = append(l, n.Set)
		}
		todo = append(slices.Clone(n.Kids), todo...)
	}
	return l
}

// Step and End as the chapter says them, place by place.

func plainStep(a api.Auto, at []int, sign uint64) []int {
	var l []int
	for q := 1; q <= len(a.Sets); q++ {
		met := slices.Contains(at, 0) && slices.Contains(a.First, q)
		for p := range a.Follow {
			met = met || slices.Contains(at, p+1) && slices.Contains(a.Follow[p], q)
		}
		if met && sign&(1<<a.Sets[q-1]) != 0 {
			l = append(l, q)
		}
	}
	return l
}

func plainEnd(a api.Auto, at []int) bool {
	for _, p := range a.Last {
		if slices.Contains(at, p) {
			return true
		}
	}
	return a.Null && slices.Contains(at, 0)
}

// Expressions and words for tests.

// ofSize are all expressions of so many nodes, of the sets 0 and 1, with at most two parts each; known are those of fewer nodes.
func ofSize(size int, known [][]api.Node) []api.Node {
	if size == 1 {
		return []api.Node{set(0), set(1), cat()}
	}
	var l []api.Node
	for _, x := range known[size-1] {
		l = append(l, star(x), plus(x), opt(x), cat(x), alt(x))
	}
	for i := 1; i < size-1; i++ {
		for _, x := range known[i] {
			for _, y := range known[size-1-i] {
				l = append(l, cat(x, y), alt(x, y))
			}
		}
	}
	return l
}

// upTo are all expressions of at most so many nodes.
func upTo(size int) []api.Node {
	known := make([][]api.Node, size+1)
	var l []api.Node
	for i := 1; i <= size; i++ {
		known[i] = ofSize(i, known)
		l = append(l, known[i]...)
	}
	return l
}

// words are all words of signs below a number up to a length.
func words(signs uint64, most int) [][]uint64 {
	l := [][]uint64{nil}
	for from := 0; most > 0; most-- {
		to := len(l)
		for _, w := range l[from:to] {
			for sign := range signs {
				l = append(l, append(slices.Clone(w), sign))
			}
		}
		from = to
	}
	return l
}

func set(i int) api.Node             { return api.Node{Kind: api.NodeSet, Set: i} }
func cat(parts ...api.Node) api.Node { return api.Node{Kind: api.NodeCat, Kids: parts} }
func alt(parts ...api.Node) api.Node { return api.Node{Kind: api.NodeAlt, Kids: parts} }
func star(part api.Node) api.Node    { return api.Node{Kind: api.NodeStar, Kids: []api.Node{part}} }
func plus(part api.Node) api.Node    { return api.Node{Kind: api.NodePlus, Kids: []api.Node{part}} }
func opt(part api.Node) api.Node     { return api.Node{Kind: api.NodeOpt, Kids: []api.Node{part}} }

// many are so many expressions that are the same.
func many(n api.Node, count int) []api.Node { return slices.Repeat([]api.Node{n}, count) }

// upFrom are the numbers from one to another.
func upFrom(low, high int) []int {
	var l []int
	for ; low <= high; low++ {
		l = append(l, low)
	}
	return l
}

// copied is an expression that shares nothing with another one.
func copied(n api.Node) api.Node {
	n.Kids = slices.Clone(n.Kids)
	for i := range n.Kids {
		n.Kids[i] = copied(n.Kids[i])
	}
	return n
}

// same tells whether two expressions are the same; no parts, nil or empty, are the same.
func same(m, n api.Node) bool {
	return m.Kind == n.Kind && m.Set == n.Set && slices.EqualFunc(m.Kids, n.Kids, same)
}

// copiedAuto are places that share nothing with others.
func copiedAuto(a api.Auto) api.Auto {
	a.Sets, a.First, a.Last, a.Follow = slices.Clone(a.Sets), slices.Clone(a.First), slices.Clone(a.Last), slices.Clone(a.Follow)
	for i, l := range a.Follow {
		a.Follow[i] = slices.Clone(l)
	}
	return a
}

// sameAuto tells whether two are the same; lists of none, nil or empty, are the same.
func sameAuto(a, b api.Auto) bool {
	return a.Null == b.Null && slices.Equal(a.Sets, b.Sets) && slices.Equal(a.First, b.First) && slices.Equal(a.Last, b.Last) &&
		slices.EqualFunc(a.Follow, b.Follow, func(l, m []int) bool { return slices.Equal(l, m) })
}
