package alphabet_test

import (
	"math"
	"math/rand"
	"slices"
	"testing"

	"scansion/alphabet"
	"scansion/api"
	"scansion/ranges"
)

type sets = [][]api.Range

// P9.1

func TestNew(t *testing.T) {
	for _, c := range []struct {
		what  string
		sets  sets
		masks []uint64
		least []int
	}{
		{"the chapter's", sets{numbers('a', 'c'), numbers('b', 'z')}, []uint64{0, 1, 3, 2}, []int{0, 'a', 'b', 'd'}},
		{"nil", nil, []uint64{0}, []int{0}},
		{"no sets", sets{}, []uint64{0}, []int{0}},
		{"the empty set", sets{nil}, []uint64{0}, []int{0}},
		{"the empty set, not nil", sets{{}}, []uint64{0}, []int{0}},
		{"all numbers", sets{numbers(0, top)}, []uint64{1}, []int{0}},
		{"all numbers, and none", sets{nil, numbers(0, top)}, []uint64{2}, []int{0}},
		{"all numbers, twice", sets{numbers(0, top), numbers(0, top)}, []uint64{3}, []int{0}},
		{"the number 0", sets{numbers(0, 0)}, []uint64{1, 0}, []int{0, 1}},
		{"the last number", sets{numbers(top, top)}, []uint64{0, 1}, []int{0, top}},
		{"the first and the last one", sets{numbers(0, 0, top, top)}, []uint64{1, 0}, []int{0, 1}},
		{"the first one, the last one", sets{numbers(0, 0), numbers(top, top)}, []uint64{1, 0, 2}, []int{0, 1, top}},
		{"all but the first one", sets{numbers(1, top)}, []uint64{0, 1}, []int{0, 1}},
		{"all but the last one", sets{numbers(0, top-1)}, []uint64{1, 0}, []int{0, top}},
		{"one number", sets{numbers(7, 7)}, []uint64{0, 1}, []int{0, 7}},
		{"all but one", sets{numbers(0, 6, 8, top)}, []uint64{1, 0}, []int{0, 7}},
		{"a set and all others", sets{numbers(7, 9), numbers(0, 6, 10, top)}, []uint64{2, 1}, []int{0, 7}},
		{"the same set twice", sets{numbers(7, 9), numbers(7, 9)}, []uint64{0, 3}, []int{0, 7}},
		{"the same set twice, one between", sets{numbers(7, 9), nil, numbers(7, 9)}, []uint64{0, 5}, []int{0, 7}},
		{"apart", sets{numbers(3, 4), numbers(7, 9)}, []uint64{0, 1, 2}, []int{0, 3, 7}},
		{"apart, the last one first", sets{numbers(7, 9), numbers(3, 4)}, []uint64{0, 2, 1}, []int{0, 3, 7}},
		{"touch", sets{numbers(3, 6), numbers(7, 9)}, []uint64{0, 1, 2}, []int{0, 3, 7}},
		{"touch from 0 on", sets{numbers(0, 6), numbers(7, top)}, []uint64{1, 2}, []int{0, 7}},
		{"meet in one number", sets{numbers(3, 7), numbers(7, 9)}, []uint64{0, 1, 3, 2}, []int{0, 3, 7, 8}},
		{"within", sets{numbers(3, 9), numbers(5, 6)}, []uint64{0, 1, 3}, []int{0, 3, 5}},
		{"within, of one beginning", sets{numbers(3, 9), numbers(3, 6)}, []uint64{0, 3, 1}, []int{0, 3, 7}},
		{"within, of one end", sets{numbers(3, 9), numbers(5, 9)}, []uint64{0, 1, 3}, []int{0, 3, 5}},
		{"within all numbers", sets{numbers(0, top), numbers(5, 9)}, []uint64{1, 3}, []int{0, 5}},
		{"within a gap", sets{numbers(1, 2, 8, 9), numbers(4, 5)}, []uint64{0, 1, 2}, []int{0, 1, 4}},
		{"a gap of one number", sets{numbers(1, 2, 4, 9), numbers(3, 3)}, []uint64{0, 1, 2}, []int{0, 1, 3}},
		{"over a gap", sets{numbers(1, 2, 8, 9), numbers(2, 8)}, []uint64{0, 1, 3, 2}, []int{0, 1, 2, 3}},
		{"three", sets{numbers(1, 5), numbers(3, 9), numbers(5, 7)}, []uint64{0, 1, 3, 7, 6, 2}, []int{0, 1, 3, 5, 6, 8}},
		{"over many blocks", sets{numbers(100, 100000), numbers(300, 400, 1000, top)}, []uint64{0, 1, 3, 2}, []int{0, 100, 300, 100001}},
	} {
		t.Run(c.what, func(t *testing.T) {
			a := made(t, c.sets...)
			holdClasses(t, a, c.masks, c.least)
			hold(t, a, c.sets)
		})
	}
}

func TestTheLastSet(t *testing.T) {
	l := make(sets, 60)
	l[59] = numbers('a', 'z')
	holdClasses(t, made(t, l...), []uint64{0, 1 << 59}, []int{0, 'a'})
	for i := range l {
		l[i] = numbers(i, i)
	}
	hold(t, made(t, l...), l)
	for i := range l {
		l[i] = numbers(0, 10000+i)
	}
	hold(t, made(t, l...), l)
}

// noSets are lists none of which is a set.
func noSets() map[string][]api.Range {
	return map[string][]api.Range{
		"touch":                   numbers(1, 3, 4, 6),
		"overlap":                 numbers(1, 3, 3, 6),
		"one within the other":    numbers(1, 9, 3, 6),
		"twice":                   numbers(1, 3, 1, 3),
		"fall":                    numbers(5, 6, 1, 3),
		"fall, and touch":         numbers(4, 6, 1, 3),
		"touch at the end":        numbers(1, 3, 5, 6, 8, 9, 10, 10),
		"touch the last one":      numbers(0, top-1, top, top),
		"turned":                  numbers(2, 1),
		"turned, behind a right":  numbers(1, 3, 7, 6),
		"turned by far":           numbers(top, 0),
		"below 0":                 numbers(-1, 3),
		"wholly below 0":          numbers(-9, -1),
		"above 10FFFF":            numbers(5, top+1),
		"wholly above 10FFFF":     numbers(top+1, top+1),
		"above, behind a right":   numbers(1, 3, 5, top+1),
		"all numbers and beyond":  numbers(-1, top+1),
		"the least and the most":  numbers(math.MinInt, math.MaxInt),
		"the most and the least":  numbers(math.MaxInt, math.MinInt),
		"the most":                numbers(math.MaxInt, math.MaxInt),
		"the least":               numbers(math.MinInt, math.MinInt),
		"up to the most":          numbers(0, math.MaxInt, 5, 6),
		"an end that turns round": numbers(1, math.MaxInt, math.MinInt, 6),
		"the range of 0 twice":    make([]api.Range, 2),
	}
}

func TestNoSet(t *testing.T) {
	for what, l := range noSets() {
		refused(t, api.ErrArg, what, l)
		refused(t, api.ErrArg, what+", behind sets", nil, numbers(0, top), numbers(1, 3), l)
		refused(t, api.ErrArg, what+", ahead of sets", l, nil, numbers(0, top), numbers(1, 3))
		many := make(sets, 60)
		many[59] = l
		refused(t, api.ErrArg, what+", the last of 60", many...)
	}
	for what, l := range map[string][]api.Range{
		"one number between": numbers(1, 3, 5, 6),
		"one number":         numbers(0, 0),
		"the ends":           numbers(0, 0, top, top),
	} {
		t.Run(what, func(t *testing.T) { hold(t, made(t, l), sets{l}) })
	}
}

func TestSixtySets(t *testing.T) {
	hold(t, made(t, make(sets, 60)...), make(sets, 60))
	refused(t, api.ErrFull, "61 sets", make(sets, 61)...)
	refused(t, api.ErrFull, "many sets", make(sets, 1000)...)
	for what, l := range noSets() {
		many := make(sets, 61)
		many[0] = l
		refused(t, api.ErrFull, what+", and 61 of them", many...)
	}
}

// binary are the sets of the numbers below count, from first on, by which figures their distance has: count masks, 0 among them.
func binary(first, count int) sets {
	var l sets
	for bit := 1; bit < count; bit *= 2 {
		var s []api.Range
		for n := range count {
			if n&bit != 0 {
				s = append(s, api.Range{Low: first + n, High: first + n})
			}
		}
		s, _ = ranges.Make(s)
		l = append(l, s)
	}
	return l
}

func TestTwoHundredClasses(t *testing.T) {
	for _, first := range []int{0, 1000, top - 400} {
		l := binary(first, 200)
		if a := made(t, l...); a.Count() != 200 {
			t.Errorf("%d classes", a.Count())
		}
		hold(t, made(t, l...), l)
		refused(t, api.ErrFull, "201 classes", binary(first, 201)...)
		refused(t, api.ErrFull, "256 classes", binary(first, 256)...)
	}
	refused(t, api.ErrFull, "1000 classes", binary(3, 1000)...)
	last := binary(top-199, 200)
	hold(t, made(t, last...), last)
	last = append(last, numbers(top, top))
	hold(t, made(t, last...), last)
	last[len(last)-1] = numbers(top-1, top-1, top-150, top-150)
	refused(t, api.ErrArg, "a list that falls", last...)
	last[len(last)-1] = numbers(0, 0, top, top)
	refused(t, api.ErrFull, "a class at the first number", last...)
}

// TestNoSetAndClasses: a list that is no set is named ahead of too many classes, wherever it stands.
func TestNoSetAndClasses(t *testing.T) {
	for what, l := range noSets() {
		refused(t, api.ErrArg, what, append(binary(7, 201), l)...)
		refused(t, api.ErrArg, what, append(sets{l}, binary(7, 201)...)...)
		refused(t, api.ErrArg, what, alone(0, 2, 5000), l)
		refused(t, api.ErrArg, what, append(alone(20, 2, 5000), l...))
	}
}

// TestRangesOfATrie: a trie takes 4096 entries, of which the ranges of the class 0 are some.
func TestRangesOfATrie(t *testing.T) {
	for _, c := range []struct {
		what string
		sets sets
		want api.Errno
	}{
		{"4096, from 0 on", sets{alone(0, 2, 2048)}, api.OK},
		{"4097, from 0 on", sets{append(alone(0, 2, 2048), numbers(5000, top)...)}, api.ErrFull},
		{"4098, from 0 on", sets{alone(0, 2, 2049)}, api.ErrFull},
		{"4095, from 1 on", sets{alone(1, 2, 2047)}, api.OK},
		{"4096, from 1 on", sets{append(alone(1, 2, 2047), numbers(5000, top)...)}, api.OK},
		{"4097, from 1 on", sets{alone(1, 2, 2048)}, api.ErrFull},
		{"4096, up to the end", sets{alone(top-2*2047, 2, 2048)}, api.OK},
		{"4098, up to the end", sets{alone(top-2*2048, 2, 2049)}, api.ErrFull},
		{"4096 of two sets", sets{alone(0, 4, 1024), alone(2, 4, 1024)}, api.OK},
		{"4098 of two sets", sets{alone(0, 4, 1025), alone(2, 4, 1024)}, api.ErrFull},
		{"4096 of sets that touch", sets{alone(0, 2, 2048), alone(1, 2, 2047)}, api.OK},
		{"4097 of sets that touch", sets{alone(0, 2, 2048), alone(1, 2, 2048)}, api.ErrFull},
		{"4096, twice", sets{alone(0, 2, 2048), alone(0, 2, 2048)}, api.OK},
		{"5000", sets{alone(0, 3, 5000)}, api.ErrFull},
		{"5000, and all others", sets{alone(0, 3, 5000), ranges.Not(alone(0, 3, 5000))}, api.ErrFull},
		{"as many as can be", sets{alone(0, 2, (top+1)/2)}, api.ErrFull},
		{"4095 in 60 sets", slices.Collect(slices.Chunk(alone(1, 2, 2047), 35)), api.OK},
		{"4097 in 60 sets", slices.Collect(slices.Chunk(alone(1, 2, 2048), 35)), api.ErrFull},
	} {
		t.Run(c.what, func(t *testing.T) {
			a, e := alphabet.New(c.sets)
			if e != c.want || (a == nil) != (c.want != api.OK) {
				t.Fatalf("error %d, want %d; alphabet %p", e, c.want, a)
			}
			if e == api.OK {
				hold(t, a, c.sets)
			}
		})
	}
}

// marked is one number in each of so many blocks of 256 numbers, at another place of each.
func marked(count int) []api.Range { return alone(0, 257, count) }

// TestBlocksOfATrie: a trie takes 256 blocks that are unlike.
func TestBlocksOfATrie(t *testing.T) {
	l := sets{marked(255)}
	hold(t, made(t, l...), l)
	refused(t, api.ErrFull, "257 blocks", marked(256))
	l = sets{marked(255), numbers(0x80000, 0x800FF), numbers(0x90000, top)}
	refused(t, api.ErrFull, "whole blocks of other classes, too", l...)
	l[0] = marked(253)
	hold(t, made(t, l...), l)
	refused(t, api.ErrFull, "2000 ranges, far apart", alone(5, 301, 2000))
}

// P9.2

func TestOutside(t *testing.T) {
	for _, l := range []sets{nil, {numbers('a', 'z')}, {numbers(0, top)}, {numbers(0, 0), numbers(top, top)}} {
		a := made(t, l...)
		for _, r := range []int{-1, -2, -256, top + 1, top + 256, math.MinInt, math.MaxInt, math.MinInt32, math.MaxInt32, 1 << 32, 1<<32 + 'a', 'a' - 1<<32} {
			if a.Of(r) != -1 {
				t.Errorf("Of(%d): %d", r, a.Of(r))
			}
			if w := a.Word([]int{r, 'a', r}); len(w) != 3 || w[0] != 0 || w[1] != plainMask(l, 'a') || w[2] != 0 {
				t.Errorf("Word of %d: %b", r, w)
			}
		}
		n := a.Count()
		for _, class := range []int{-1, -2, n, n + 1, 200, 255, 256, 1 << 32, 1 << 8, math.MinInt, math.MaxInt} {
			if a.Mask(class) != 0 || a.Any(class) != -1 {
				t.Errorf("class %d of %d: mask %b, least number %d", class, n, a.Mask(class), a.Any(class))
			}
		}
	}
}

func TestWord(t *testing.T) {
	a := made(t, numbers('a', 'c'), numbers('b', 'z'))
	for _, c := range []struct {
		l    []int
		want []uint64
	}{
		{nil, nil},
		{[]int{}, nil},
		{[]int{'b'}, []uint64{3}},
		{[]int{'a', 'z', -1}, []uint64{1, 2, 0}},
		{[]int{'z', 'z', 'a', 0, 'z', top, top + 1, 'c'}, []uint64{2, 2, 1, 0, 2, 0, 0, 3}},
	} {
		kept := slices.Clone(c.l)
		if got := a.Word(c.l); !slices.Equal(got, c.want) {
			t.Errorf("%v: %b, want %b", c.l, got, c.want)
		}
		if !slices.Equal(c.l, kept) {
			t.Error("Word changed its numbers")
		}
	}
	long := make([]int, 100000)
	for i := range long {
		long[i] = i - 100
	}
	for i, mask := range a.Word(long) {
		want := uint64(0)
		if r := long[i]; r >= 0 {
			want = plainMask(sets{numbers('a', 'c'), numbers('b', 'z')}, r)
		}
		if mask != want {
			t.Fatalf("the mask of %d: %b, want %b", long[i], mask, want)
		}
	}
}

// TestOfAll: every number, of alphabets whose ranges lie within blocks, and over them.
func TestOfAll(t *testing.T) {
	for _, l := range []sets{
		nil,
		{numbers('a', 'c'), numbers('b', 'z')},
		{numbers(250, 260, 500, 511, 513, 1024, 70000, 90000), numbers(0, 255, 257, 80000, top, top)},
		binary(top-300, 200),
	} {
		a := made(t, l...)
		first := map[uint64]int{}
		for r := range top + 1 {
			mask := plainMask(l, r)
			if _, there := first[mask]; !there {
				first[mask] = len(first)
				if a.Any(len(first)-1) != r {
					t.Fatalf("the least number of class %d: %#x, want %#x", len(first)-1, a.Any(len(first)-1), r)
				}
			}
			if a.Of(r) != first[mask] || a.Mask(a.Of(r)) != mask {
				t.Fatalf("%#x: class %d of mask %b, want %d of %b", r, a.Of(r), a.Mask(a.Of(r)), first[mask], mask)
			}
		}
		if a.Count() != len(first) {
			t.Errorf("%d classes, want %d", a.Count(), len(first))
		}
	}
}

// R3, R4

func TestWhatIsToldIsTheCallers(t *testing.T) {
	l := sets{numbers('a', 'c'), numbers('b', 'z')}
	a := made(t, l...)
	for range 2 {
		masks, word := a.Masks(), a.Word([]int{'a', 'b', 'd', 0})
		for i := range masks {
			masks[i] = 77
			word[i] = 78
		}
		_ = append(masks[:1], 79, 79, 79)
		hold(t, a, l)
	}
	one, other := a.Masks(), a.Masks()
	one[0] = 5
	if other[0] != 0 {
		t.Error("two answers share memory")
	}
	one, other = a.Word([]int{'a'}), a.Word([]int{'a'})
	one[0] = 5
	if other[0] != 1 {
		t.Error("two words share memory")
	}
}

func TestWhatIsHandedInStays(t *testing.T) {
	fresh := func() sets {
		return sets{numbers('a', 'c', 'x', 'x'), numbers('b', 'z', 1000, 2000), nil, numbers(0, 5)}
	}
	l := fresh()
	a := made(t, l...)
	for i, s := range fresh() {
		if !slices.Equal(l[i], s) {
			t.Errorf("New changed the set %d: %v", i, l[i])
		}
	}
	for _, s := range l {
		for i := range s {
			s[i] = api.Range{Low: 7, High: 8}
		}
	}
	clear(l)
	hold(t, a, fresh())

	wrong := sets{numbers(5, 6, 1, 3), numbers(4, 9)}
	refused(t, api.ErrArg, "a list that falls", wrong...)
	if !slices.Equal(wrong[0], numbers(5, 6, 1, 3)) || !slices.Equal(wrong[1], numbers(4, 9)) {
		t.Errorf("New changed what it refused: %v", wrong)
	}
}

// TestOneListAsSeveralSets: sets may share memory with one another.
func TestOneListAsSeveralSets(t *testing.T) {
	l := numbers(1, 2, 5, 9, 20, 30)
	some := sets{l, l, l[1:], l[:1], l[1:2]}
	hold(t, made(t, some...), some)
}

func TestAlphabetsAreApart(t *testing.T) {
	one, other := sets{numbers('a', 'c'), numbers('b', 'z')}, sets{numbers(0, 'b'), numbers('q', 'q'), numbers('p', top)}
	a := made(t, one...)
	b := made(t, other...)
	hold(t, a, one)
	hold(t, b, other)
	refused(t, api.ErrFull, "too many", alone(0, 2, 5000))
	hold(t, a, one)
	hold(t, made(t, one...), one)
}

// P9.3

// theorem holds two sides of the promise against an alphabet, without counting classes: numbers of one class are in the same sets, and numbers that are not, are not.
func theorem(t *testing.T, l sets) {
	t.Helper()
	a := made(t, l...)
	asked := edges(l)
	for i, r := range asked {
		for _, s := range asked[:i+1] {
			same := true
			for _, set := range l {
				same = same && ranges.Has(set, r) == ranges.Has(set, s)
			}
			if (a.Of(r) == a.Of(s)) != same {
				t.Fatalf("%v: %#x is of class %d, %#x of %d", l, r, a.Of(r), s, a.Of(s))
			}
		}
	}
	count := 0
	for _, s := range l {
		count += len(s)
	}
	if n := a.Count(); n < 1 || n > 2*count+1 {
		t.Fatalf("%v: %d classes", l, n)
	}
	for class := range a.Count() {
		if r := a.Any(class); r < 0 || r > top || a.Of(r) != class {
			t.Fatalf("%v: class %d has the number %d, which is of class %d", l, class, r, a.Of(r))
		}
	}
	hold(t, a, l)
}

// smallSets are all sets that are made of whole parts: 0, 1 to 2, 3, 4 to the last but one, and the last one.
func smallSets() sets {
	parts := numbers(0, 0, 1, 2, 3, 3, 4, top-1, top, top)
	var l sets
	for n := range 1 << len(parts) {
		var some []api.Range
		for i, p := range parts {
			if n>>i&1 == 1 {
				some = append(some, p)
			}
		}
		s, _ := ranges.Make(some)
		l = append(l, s)
	}
	return l
}

func TestSmallSets(t *testing.T) {
	small := smallSets()
	theorem(t, nil)
	for _, a := range small {
		theorem(t, sets{a})
		for _, b := range small {
			theorem(t, sets{a, b})
		}
	}
	chance := rand.New(rand.NewSource(91))
	for range 4000 {
		var l sets
		for range 3 + chance.Intn(5) {
			l = append(l, small[chance.Intn(len(small))])
		}
		theorem(t, l)
	}
}

// anySet is a set of some ranges among the numbers from low on, near one another; now and then of those at the end.
func anySet(chance *rand.Rand, low, width int) []api.Range {
	var l []api.Range
	for range chance.Intn(6) {
		from := low + chance.Intn(width)
		l = append(l, api.Range{Low: from, High: from + chance.Intn(1+chance.Intn(width))})
	}
	s, _ := ranges.Make(l)
	if chance.Intn(4) == 0 {
		return ranges.Not(s)
	}
	return s
}

func TestAnySets(t *testing.T) {
	chance := rand.New(rand.NewSource(92))
	for range 1500 {
		width := []int{4, 20, 300, 5000}[chance.Intn(4)]
		low := []int{0, 100, 200, 1000, top - 2*width}[chance.Intn(5)]
		var l sets
		for range chance.Intn(6) {
			l = append(l, anySet(chance, low, width))
		}
		theorem(t, l)
	}
}

// TestManySets: up to 61 sets, with as many classes as are at the bound, or behind it.
func TestManySets(t *testing.T) {
	chance := rand.New(rand.NewSource(93))
	taken, full := 0, 0
	for range 300 {
		var l sets
		for range 20 + chance.Intn(42) {
			l = append(l, ranges.Or(anySet(chance, 50, 3000), alone(chance.Intn(1000), 500, chance.Intn(5))))
		}
		want := plainError(l)
		a, e := alphabet.New(l)
		if e != want {
			t.Fatalf("%d sets: error %d, want %d", len(l), e, want)
		}
		if e == api.OK {
			taken++
			hold(t, a, l)
		} else {
			full++
		}
	}
	if taken < 40 || full < 40 {
		t.Errorf("%d taken, %d refused: too few of one", taken, full)
	}
}

// TestManyRanges: sets with about as many ranges, and blocks, as a trie takes.
func TestManyRanges(t *testing.T) {
	chance := rand.New(rand.NewSource(94))
	taken, full := 0, 0
	for range 60 {
		count := 1900 + chance.Intn(300)
		step := 2 + chance.Intn(3)
		if chance.Intn(2) == 0 {
			count, step = 240+chance.Intn(40), 257
		}
		l := sets{alone(chance.Intn(2), step, count), anySet(chance, 0, 600), anySet(chance, 3000, 3000)}
		want := plainError(l)
		a, e := alphabet.New(l)
		if e != want {
			t.Fatalf("%d ranges, %d from one another: error %d, want %d", count, step, e, want)
		}
		if e == api.OK {
			taken++
			hold(t, a, l)
		} else {
			full++
		}
	}
	if taken < 10 || full < 10 {
		t.Errorf("%d taken, %d refused: too few of one", taken, full)
	}
}

// P1

// TestGreatSets: as many ranges as sets can have come to an end soon.
func TestGreatSets(t *testing.T) {
	even, odd := alone(0, 2, (top+1)/2), alone(1, 2, (top+1)/2)
	l := make(sets, 60)
	for i := range l {
		l[i] = even
		if i%2 == 1 {
			l[i] = odd
		}
	}
	refused(t, api.ErrFull, "60 great sets", l...)
	l[59] = slices.Clone(odd)
	l[59][len(odd)-1].High++
	refused(t, api.ErrArg, "the last range ends above 10FFFF", l...)
}

// setsOf reads sets off bytes: two bytes are how far a range is from the one ahead and how long it is, less 3, so that some are none; 255 ends a set.
func setsOf(b []byte) sets {
	var l sets
	var s []api.Range
	at := 0
	for len(b) >= 2 {
		if b[0] == 255 {
			l, s, at, b = append(l, s), nil, int(b[1])*3, b[1:]
			continue
		}
		low := at + int(b[0]) - 1
		high := low + int(b[1]) - 3
		s, at, b = append(s, api.Range{Low: low, High: high}), high+1, b[2:]
	}
	return append(l, s)
}

func FuzzNew(f *testing.F) {
	f.Add([]byte{98, 5, 255, 33, 30, 9})
	f.Add([]byte{3, 5, 255, 255, 9, 9, 1, 1})
	f.Add([]byte{1, 3, 255, 0, 2, 200, 2, 200, 9, 200})
	f.Fuzz(func(t *testing.T, b []byte) {
		if len(b) > 400 {
			return
		}
		l := setsOf(b)
		want := plainError(l)
		a, e := alphabet.New(l)
		if e != want || (a == nil) != (want != api.OK) {
			t.Fatalf("%v: error %d, want %d; alphabet %p", l, e, want, a)
		}
		if e == api.OK {
			hold(t, a, l)
		}
	})
}
