package packed_test

import (
	"encoding/binary"
	"math"
	"math/big"
	"math/rand"
	"slices"
	"strconv"
	"strings"

	"scansion/api"
)

// What the chapter tells, plainly.

// plainNumber is a number in its figures to the base 128, the lowest first.
func plainNumber(n int) []byte {
	if n <= 0 {
		return []byte{0}
	}
	digits := strconv.FormatUint(uint64(n), 2)
	digits = strings.Repeat("0", 6-(len(digits)+6)%7) + digits
	var b []byte
	for i := len(digits) - 7; i >= 0; i -= 7 {
		figure, _ := strconv.ParseUint(digits[i:i+7], 2, 8)
		b = append(b, byte(figure))
	}
	for i := range b[1:] {
		b[i] += 0x80
	}
	return b
}

// plainTold tries how many bytes the number has with which some bytes begin.
func plainTold(b []byte) (int, int, api.Errno) {
	for size := 1; size <= len(b) && size <= 9; size++ {
		n := new(big.Int)
		for i := size - 1; i >= 0; i-- {
			n.Lsh(n, 7).Add(n, big.NewInt(int64(b[i]&0x7F)))
		}
		if n.Cmp(big.NewInt(math.MaxInt32)) <= 0 && slices.Equal(plainNumber(int(n.Int64())), b[:size]) {
			return int(n.Int64()), size, api.OK
		}
	}
	return 0, 0, api.ErrForm
}

// plainSave is the bytes of states that may be: a run goes on as long as the next class leads to the same state.
func plainSave(d api.Dfa) []byte {
	b := slices.Concat([]byte{0x53, 0x44}, plainNumber(len(d.Next)), plainNumber(len(d.Next[0])))
	for state, row := range d.Next {
		if d.Final[state] {
			b = append(b, 1)
		} else {
			b = append(b, 0)
		}
		count := 0
		for class, to := range row {
			count++
			if class+1 == len(row) || row[class+1] != to {
				b = append(append(b, plainNumber(count)...), plainNumber(to)...)
				count = 0
			}
		}
	}
	return b
}

// plainRight tells whether states may be.
func plainRight(d api.Dfa) bool {
	if len(d.Next) < 1 || len(d.Next) > 5000 || len(d.Final) != len(d.Next) || len(d.Next[0]) < 1 || len(d.Next[0]) > 200 {
		return false
	}
	for _, row := range d.Next {
		if len(row) != len(d.Next[0]) || slices.Min(row) < 0 || slices.Max(row) >= len(d.Next) {
			return false
		}
	}
	return true
}

// plainLoad reads what it can, by the library's numbers, and holds what the states are saved as against what was read.
func plainLoad(b []byte) (api.Dfa, api.Errno) {
	d := loose(b)
	if !plainRight(d) || !slices.Equal(plainSave(d), b) {
		return api.Dfa{}, api.ErrForm
	}
	return d, api.OK
}

// loose reads states with hardly a look at them.
func loose(b []byte) api.Dfa {
	var d api.Dfa
	at := min(2, len(b))
	number := func() int {
		n, size := binary.Uvarint(b[at:])
		if size <= 0 || n > 1<<40 {
			at = len(b)
			return -1
		}
		at += size
		return int(n)
	}
	states, classes := number(), number()
	for len(d.Next) < states && at < len(b) {
		d.Final = append(d.Final, number() > 0)
		var row []int
		for len(row) < min(classes, 201) && at < len(b) {
			count, to := number(), number()
			for range min(count, 300) {
				row = append(row, to)
			}
		}
		d.Next = append(d.Next, row)
	}
	return d
}

// takes tells whether a state takes a word.
func takes(d api.Dfa, at int, word []int) bool {
	for _, class := range word {
		at = d.Next[at][class]
	}
	return d.Final[at]
}

// Bytes, expressions, words and states for tests.

// texts are all texts of so many bytes that are some.
func texts(some string, size int) [][]byte {
	l := [][]byte{nil}
	for range size {
		var more [][]byte
		for _, b := range l {
			for i := range len(some) {
				more = append(more, append(slices.Clone(b), some[i]))
			}
		}
		l = more
	}
	return l
}

// words are all words of so many classes, of a length.
func words(classes, size int) [][]int {
	l := [][]int{nil}
	for range size {
		var more [][]int
		for _, w := range l {
			for class := range classes {
				more = append(more, append(slices.Clone(w), class))
			}
		}
		l = more
	}
	return l
}

// allStates are all states that may be, so many of so many classes.
func allStates(states, classes int) []api.Dfa {
	l := []api.Dfa{{}}
	for range states {
		var more []api.Dfa
		for _, d := range l {
			for _, row := range words(states, classes) {
				for _, final := range []bool{false, true} {
					more = append(more, api.Dfa{Next: append(slices.Clone(d.Next), row), Final: append(slices.Clone(d.Final), final)})
				}
			}
		}
		l = more
	}
	return l
}

// ofSize are all expressions of so many nodes, of the sets 0 and 1, with at most two parts each; known are those of fewer nodes.
func ofSize(size int, known [][]api.Node) []api.Node {
	if size == 1 {
		return []api.Node{set(0), set(1), cat()}
	}
	var l []api.Node
	for _, x := range known[size-1] {
		l = append(l, star(x), plus(x), opt(x), cat(x), alt(x))
	}
	for i := 1; i < size-1; i++ {
		for _, x := range known[i] {
			for _, y := range known[size-1-i] {
				l = append(l, cat(x, y), alt(x, y))
			}
		}
	}
	return l
}

// upTo are all expressions of at most so many nodes.
func upTo(size int) []api.Node {
	known := make([][]api.Node, size+1)
	var l []api.Node
	for i := 1; i <= size; i++ {
		known[i] = ofSize(i, known)
		l = append(l, known[i]...)
	}
	return l
}

func set(i int) api.Node             { return api.Node{Kind: api.NodeSet, Set: i} }
func cat(parts ...api.Node) api.Node { return api.Node{Kind: api.NodeCat, Kids: parts} }
func alt(parts ...api.Node) api.Node { return api.Node{Kind: api.NodeAlt, Kids: parts} }
func star(part api.Node) api.Node    { return api.Node{Kind: api.NodeStar, Kids: []api.Node{part}} }
func plus(part api.Node) api.Node    { return api.Node{Kind: api.NodePlus, Kids: []api.Node{part}} }
func opt(part api.Node) api.Node     { return api.Node{Kind: api.NodeOpt, Kids: []api.Node{part}} }

// stepping are states that lead, by each class, where a function tells; one of so many is Final.
func stepping(states, classes, finals int, to func(state, class int) int) api.Dfa {
	var d api.Dfa
	for state := range states {
		row := make([]int, classes)
		for class := range row {
			row[class] = to(state, class)
		}
		d.Next = append(d.Next, row)
		d.Final = append(d.Final, state%finals == 0)
	}
	return d
}

// toFirst are states whose classes all lead to the first one.
func toFirst(states, classes int) api.Dfa {
	return stepping(states, classes, 2, func(int, int) int { return 0 })
}

// eachElsewhere are states of which each class leads elsewhere, if there are enough of them.
func eachElsewhere(states, classes int) api.Dfa {
	return stepping(states, classes, 3, func(state, class int) int { return (state + (class+1)*(states-1)) % states })
}

// inRuns are states whose rows are runs of lengths drawn by lot.
func inRuns(r *rand.Rand, states, classes, most int) api.Dfa {
	left, to := 0, 0
	return stepping(states, classes, 1+r.Intn(4), func(int, int) int {
		if left--; left < 0 {
			left, to = r.Intn(most), r.Intn(states)
		}
		return to
	})
}

// copied are states that share nothing with others.
func copied(d api.Dfa) api.Dfa {
	d.Next, d.Final = slices.Clone(d.Next), slices.Clone(d.Final)
	for i, row := range d.Next {
		d.Next[i] = slices.Clone(row)
	}
	return d
}

// same tells whether two are the same.
func same(a, b api.Dfa) bool {
	return slices.Equal(a.Final, b.Final) && slices.EqualFunc(a.Next, b.Next, func(l, m []int) bool { return slices.Equal(l, m) })
}
