package least

import (
	"slices"

	"scansion/api"
)

// pair is a state of each of two, to which the same word leads.
type pair [2]int

// step is how a pair was met: from which one, by which class.
type step struct {
	from  pair
	class int
}

// firstApart is the first word that one of two has, and the other not, and whether there is one.
func firstApart(a, b api.Dfa) ([]int, bool) {
	begin := pair{0, 0}
	met := map[pair]step{}
	linked := newLinks(len(a.Next) + len(b.Next))
	linked.link(begin[0], len(a.Next)+begin[1])
	for todo := []pair{begin}; len(todo) > 0; todo = todo[1:] {
		at := todo[0]
		if a.Final[at[0]] != b.Final[at[1]] {
			return between(begin, at, met), true
		}
		for class, to := range a.Next[at[0]] {
			next := pair{to, b.Next[at[1]][class]}
			// Two that pairs link already are left out: a word that tells them apart tells one of those pairs apart, too, to which an earlier word led.
			if linked.link(next[0], len(a.Next)+next[1]) {
				met[next] = step{at, class}
				todo = append(todo, next)
			}
		}
	}
	return nil, false
}

// between are the classes that lead from one pair to another, by the steps by which pairs were met.
func between(from, to pair, met map[pair]step) []int {
	var word []int
	for to != from {
		word = append(word, met[to].class)
		to = met[to].from
	}
	slices.Reverse(word)
	return word
}

// links tells of each number one with which it is linked; one that stands for all of its own tells itself.
type links []int

// newLinks has so many numbers, none linked with another.
func newLinks(count int) links {
	l := make(links, count)
	for i := range l {
		l[i] = i
	}
	return l
}

// link links two numbers, and tells whether they were not linked before.
func (l links) link(i, j int) bool {
	i, j = l.all(i), l.all(j)
	l[i] = j
	return i != j
}

// all is the number that stands for all with which one is linked. The way there is halved for those who ask later.
func (l links) all(i int) int {
	for l[i] != i {
		l[i] = l[l[i]]
		i = l[i]
	}
	return i
}
