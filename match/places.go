package match

// places are places of a word: rising, each once.
type places []int

// allPlaces are those of a word, its beginning and its end among them.
func allPlaces(word []uint64) places {
	l := make(places, len(word)+1)
	for i := range l {
		l[i] = i
	}
	return l
}

// join is the places that are in one of two lists.
func (p places) join(q places) places {
	if len(p) == 0 {
		return q
	}
	both := make(places, 0, len(p)+len(q))
	for len(p) > 0 && len(q) > 0 {
		switch {
		case p[0] < q[0]:
			both, p = append(both, p[0]), p[1:]
		case q[0] < p[0]:
			both, q = append(both, q[0]), q[1:]
		default:
			p = p[1:] // it comes with the other list
		}
	}
	return append(append(both, p...), q...)
}

// marks tell which places of a word were met, a bit for each.
type marks []uint64

func newMarks(word []uint64) marks { return make(marks, len(word)/64+1) }

// put marks places, and tells those that were not marked yet.
func (m marks) put(l places) places {
	var fresh places
	for _, at := range l {
		bit := uint64(1) << (at % 64)
		if m[at/64]&bit == 0 {
			m[at/64] |= bit
			fresh = append(fresh, at)
		}
	}
	return fresh
}
