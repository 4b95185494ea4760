package subset_test

import (
	"slices"

	"scansion/api"
	"scansion/follow"
)

// States as the chapter tells them: lists of places, held against each other one by one, each met by a step of its own.

// plainBuild is what Build should tell, and whether there are no more states than the limit.
func plainBuild(a api.Auto, masks []uint64, free bool, limit int) (api.Dfa, bool) {
	met := [][]int{{0}}
	var d api.Dfa
	for at := 0; at < len(met) && len(met) <= limit; at++ {
		var row []int
		for _, mask := range masks {
			places := follow.Step(a, met[at], mask)
			if free {
				places = append([]int{0}, places...)
			}
			state := slices.IndexFunc(met, func(l []int) bool { return slices.Equal(l, places) })
			if state < 0 {
				state = len(met)
				met = append(met, places)
			}
			row = append(row, state)
		}
		d.Next = append(d.Next, row)
		d.Final = append(d.Final, follow.End(a, met[at]))
	}
	return d, len(met) <= limit
}

// plainRight is what Right should tell, by one number after the other.
func plainRight(d api.Dfa) bool {
	wrong := len(d.Next) == 0 || len(d.Next) > 5000 || len(d.Final) < len(d.Next) || len(d.Final) > len(d.Next)
	for _, row := range d.Next {
		for _, other := range d.Next {
			wrong = wrong || len(row) != len(other)
		}
		wrong = wrong || len(row) == 0 || len(row) > 200
		for _, state := range row {
			wrong = wrong || state < 0 || state > len(d.Next)-1
		}
	}
	return !wrong
}

// Expressions, words and states for tests.

// ofSize are all expressions of so many nodes, of the sets 0 and 1, with at most two parts each; known are those of fewer nodes.
func ofSize(size int, known [][]api.Node) []api.Node {
	if size == 1 {
		return []api.Node{set(0), set(1), cat()}
	}
	var l []api.Node
	for _, x := range known[size-1] {
		l = append(l, star(x), plus(x), opt(x), cat(x), alt(x))
	}
	for i := 1; i < size-1; i++ {
		for _, x := range known[i] {
			for _, y := range known[size-1-i] {
				l = append(l, cat(x, y), alt(x, y))
			}
		}
	}
	return l
}

// upTo are all expressions of at most so many nodes.
func upTo(size int) []api.Node {
	known := make([][]api.Node, size+1)
	var l []api.Node
	for i := 1; i <= size; i++ {
		known[i] = ofSize(i, known)
		l = append(l, known[i]...)
	}
	return l
}

// words are all words of so many classes up to a length.
func words(classes, most int) [][]int {
	l := [][]int{nil}
	for from := 0; most > 0; most-- {
		to := len(l)
		for _, w := range l[from:to] {
			for class := range classes {
				l = append(l, append(slices.Clone(w), class))
			}
		}
		from = to
	}
	return l
}

// signs are the masks of a word of classes.
func signs(masks []uint64, word []int) []uint64 {
	l := make([]uint64, len(word))
	for i, class := range word {
		l[i] = masks[class]
	}
	return l
}

func set(i int) api.Node             { return api.Node{Kind: api.NodeSet, Set: i} }
func cat(parts ...api.Node) api.Node { return api.Node{Kind: api.NodeCat, Kids: parts} }
func alt(parts ...api.Node) api.Node { return api.Node{Kind: api.NodeAlt, Kids: parts} }
func star(part api.Node) api.Node    { return api.Node{Kind: api.NodeStar, Kids: []api.Node{part}} }
func plus(part api.Node) api.Node    { return api.Node{Kind: api.NodePlus, Kids: []api.Node{part}} }
func opt(part api.Node) api.Node     { return api.Node{Kind: api.NodeOpt, Kids: []api.Node{part}} }

// many are so many expressions that are the same.
func many(n api.Node, count int) []api.Node { return slices.Repeat([]api.Node{n}, count) }

// behindOne are words of the sets 0 and 1 that have a 0 so far ahead of their end: their states tell where each 0 stood, and are twice as many with each sign.
func behindOne(far int) api.Node {
	either := alt(set(0), set(1))
	return cat(star(either), set(0), cat(many(either, far)...))
}

// placesOf tells how many an expression has.
func placesOf(n api.Node) int {
	count := 0
	if n.Kind == api.NodeSet {
		count = 1
	}
	for _, kid := range n.Kids {
		count += placesOf(kid)
	}
	return count
}

// toFirst are so many states, whose classes all lead to the first one.
func toFirst(states, classes int) api.Dfa {
	d := api.Dfa{Final: make([]bool, states)}
	for range states {
		d.Next = append(d.Next, make([]int, classes))
	}
	return d
}

// copied are states that share nothing with others.
func copied(d api.Dfa) api.Dfa {
	d.Next, d.Final = slices.Clone(d.Next), slices.Clone(d.Final)
	for i, row := range d.Next {
		d.Next[i] = slices.Clone(row)
	}
	return d
}

// same tells whether two are the same; lists of none, nil or empty, are the same.
func same(a, b api.Dfa) bool {
	return slices.Equal(a.Final, b.Final) && sameLists(a.Next, b.Next)
}

func sameLists(a, b [][]int) bool {
	return slices.EqualFunc(a, b, func(l, m []int) bool { return slices.Equal(l, m) })
}

// copiedAuto are places that share nothing with others.
func copiedAuto(a api.Auto) api.Auto {
	a.Sets, a.First, a.Last, a.Follow = slices.Clone(a.Sets), slices.Clone(a.First), slices.Clone(a.Last), slices.Clone(a.Follow)
	for i, l := range a.Follow {
		a.Follow[i] = slices.Clone(l)
	}
	return a
}

func sameAuto(a, b api.Auto) bool {
	return a.Null == b.Null && slices.Equal(a.Sets, b.Sets) && slices.Equal(a.First, b.First) && slices.Equal(a.Last, b.Last) && sameLists(a.Follow, b.Follow)
}
