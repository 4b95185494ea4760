package match_test

import (
	"slices"

	"scansion/api"
)

// The words of an expression as the chapter tells them: all of them up to a length, over some signs. A sign is a byte here, so that words are texts.

type lang map[string]bool

func wordsOf(n api.Node, signs string, most int) lang {
	switch n.Kind {
	case api.NodeSet:
		l := lang{}
		for _, sign := range []byte(signs) {
			if most >= 1 && sign>>n.Set&1 == 1 {
				l[string(sign)] = true
			}
		}
		return l
	case api.NodeAlt:
		l := lang{}
		for _, part := range n.Kids {
			for w := range wordsOf(part, signs, most) {
				l[w] = true
			}
		}
		return l
	case api.NodeOpt:
		l := wordsOf(n.Kids[0], signs, most)
		l[""] = true
		return l
	case api.NodeStar:
		return anyNumber(wordsOf(n.Kids[0], signs, most), most)
	case api.NodePlus:
		part := wordsOf(n.Kids[0], signs, most)
		return behind(part, anyNumber(part, most), most)
	}
	l := lang{"": true}
	for _, part := range n.Kids {
		l = behind(l, wordsOf(part, signs, most), most)
	}
	return l
}

func behind(first, second lang, most int) lang {
	l := lang{}
	for v := range first {
		for w := range second {
			if len(v)+len(w) <= most {
				l[v+w] = true
			}
		}
	}
	return l
}

func anyNumber(part lang, most int) lang {
	l := lang{"": true}
	for {
		before := len(l)
		for w := range behind(l, part, most) {
			l[w] = true
		}
		if len(l) == before {
			return l
		}
	}
}

// The same by trying: where words of an expression end that begin at a place of a word. It has all sets, and no bound of length, but takes long.

func endsFrom(n api.Node, word []uint64, at int) map[int]bool {
	switch n.Kind {
	case api.NodeSet:
		if at < len(word) && word[at]&(1<<n.Set) != 0 {
			return map[int]bool{at + 1: true}
		}
		return nil
	case api.NodeAlt:
		l := map[int]bool{}
		for _, part := range n.Kids {
			for to := range endsFrom(part, word, at) {
				l[to] = true
			}
		}
		return l
	case api.NodeOpt:
		return endsFrom(api.Node{Kind: api.NodeAlt, Kids: []api.Node{{}, n.Kids[0]}}, word, at)
	case api.NodePlus:
		return endsFrom(api.Node{Kids: []api.Node{n.Kids[0], {Kind: api.NodeStar, Kids: n.Kids}}}, word, at)
	case api.NodeStar:
		l, todo := map[int]bool{at: true}, []int{at}
		for len(todo) > 0 {
			for to := range endsFrom(n.Kids[0], word, todo[0]) {
				if !l[to] {
					l[to] = true
					todo = append(todo, to)
				}
			}
			todo = todo[1:]
		}
		return l
	}
	l := map[int]bool{at: true}
	for _, part := range n.Kids {
		next := map[int]bool{}
		for from := range l {
			for to := range endsFrom(part, word, from) {
				next[to] = true
			}
		}
		l = next
	}
	return l
}

// Expressions and words for tests.

// ofSize are all expressions of so many nodes, of the sets 0 and 1, with at most two parts each; known are those of fewer nodes.
func ofSize(size int, known [][]api.Node) []api.Node {
	if size == 1 {
		return []api.Node{set(0), set(1), cat()}
	}
	var l []api.Node
	for _, x := range known[size-1] {
		l = append(l, star(x), plus(x), opt(x), cat(x), alt(x))
	}
	for i := 1; i < size-1; i++ {
		for _, x := range known[i] {
			for _, y := range known[size-1-i] {
				l = append(l, cat(x, y), alt(x, y))
			}
		}
	}
	return l
}

// upTo are all expressions of at most so many nodes.
func upTo(size int) []api.Node {
	known := make([][]api.Node, size+1)
	var l []api.Node
	for i := 1; i <= size; i++ {
		known[i] = ofSize(i, known)
		l = append(l, known[i]...)
	}
	return l
}

// texts are all words over signs up to a length, as texts.
func texts(signs string, most int) []string {
	l := []string{""}
	for from := 0; most > 0; most-- {
		to := len(l)
		for _, w := range l[from:to] {
			for _, sign := range []byte(signs) {
				l = append(l, w+string(sign))
			}
		}
		from = to
	}
	return l
}

// word is a text as a word.
func word(text string) []uint64 {
	w := make([]uint64, len(text))
	for i := range w {
		w[i] = uint64(text[i])
	}
	return w
}

func reversed(w []uint64) []uint64 {
	w = slices.Clone(w)
	slices.Reverse(w)
	return w
}

func set(i int) api.Node             { return api.Node{Kind: api.NodeSet, Set: i} }
func cat(parts ...api.Node) api.Node { return api.Node{Kind: api.NodeCat, Kids: parts} }
func alt(parts ...api.Node) api.Node { return api.Node{Kind: api.NodeAlt, Kids: parts} }
func star(part api.Node) api.Node    { return api.Node{Kind: api.NodeStar, Kids: []api.Node{part}} }
func plus(part api.Node) api.Node    { return api.Node{Kind: api.NodePlus, Kids: []api.Node{part}} }
func opt(part api.Node) api.Node     { return api.Node{Kind: api.NodeOpt, Kids: []api.Node{part}} }

// copied is an expression that shares nothing with another one.
func copied(n api.Node) api.Node {
	n.Kids = slices.Clone(n.Kids)
	for i := range n.Kids {
		n.Kids[i] = copied(n.Kids[i])
	}
	return n
}

// same tells whether two expressions are the same; no parts, nil or empty, are the same.
func same(m, n api.Node) bool {
	return m.Kind == n.Kind && m.Set == n.Set && slices.EqualFunc(m.Kids, n.Kids, same)
}
