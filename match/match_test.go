package match_test

import (
	"math"
	"math/rand"
	"slices"
	"testing"

	"scansion/api"
	"scansion/match"
)

type w = []uint64

// hold holds what is told of a word against the words that the expression should have.
func hold(t *testing.T, n api.Node, word w, whole, suffix, prefix bool) {
	t.Helper()
	if got := match.Whole(n, word); got != whole {
		t.Errorf("Whole(%v, %v): %v", n, word, got)
	}
	if got := match.Suffix(n, word); got != suffix {
		t.Errorf("Suffix(%v, %v): %v", n, word, got)
	}
	if got := match.Prefix(n, word); got != prefix {
		t.Errorf("Prefix(%v, %v): %v", n, word, got)
	}
}

// holdPlain holds what is told of a word against what trying tells.
func holdPlain(t *testing.T, n api.Node, word w) {
	t.Helper()
	first, suffix := endsFrom(n, word, 0), false
	for at := range len(word) + 1 {
		suffix = suffix || endsFrom(n, word, at)[len(word)]
	}
	hold(t, n, word, first[len(word)], suffix, len(first) > 0)
}

// P10.1

func TestEachKind(t *testing.T) {
	a, b := set(0), set(1)
	for _, c := range []struct {
		what      string
		n         api.Node
		words, no []w
	}{
		{"a set", b, []w{{2}, {3}, {0xFF}, {math.MaxUint64}}, []w{nil, {0}, {1}, {4}, {^uint64(2)}, {2, 2}, {0, 2}}},
		{"the set 0", a, []w{{1}, {3}, {1<<63 | 1}}, []w{nil, {0}, {2}, {1 << 63}, {^uint64(1)}, {1, 1}}},
		{"the set 63", set(63), []w{{1 << 63}, {math.MaxUint64}}, []w{nil, {0}, {1}, {1 << 62}, {1<<63 - 1}}},
		{"the set 31", set(31), []w{{1 << 31}}, []w{{1 << 30}, {1 << 32}, {1 << 63}}},
		{"the set 32", set(32), []w{{1 << 32}}, []w{{1}, {1 << 31}, {1 << 33}}},
		{"a cat", cat(a, b), []w{{1, 2}, {3, 3}, {3, 2}, {1, 3}}, []w{nil, {1}, {2}, {2, 1}, {1, 1}, {2, 2}, {1, 0}, {1, 2, 0}, {1, 2, 1, 2}}},
		{"a cat of three", cat(a, b, a), []w{{1, 2, 1}}, []w{{1, 2}, {1, 1, 2}, {2, 1, 1}, {1, 2, 1, 1}}},
		{"a cat of one", cat(a), []w{{1}}, []w{nil, {2}, {1, 1}}},
		{"a cat of none", cat(), []w{nil, {}}, []w{{0}, {1}, {1, 1}}},
		{"a cat with empty ones", cat(cat(), a, cat(), cat()), []w{{1}}, []w{nil, {1, 1}}},
		{"a cat of empty ones", cat(cat(), cat()), []w{nil}, []w{{1}}},
		{"an alternative", alt(a, b), []w{{1}, {2}, {3}}, []w{nil, {0}, {4}, {1, 2}}},
		{"an alternative of one", alt(a), []w{{1}}, []w{nil, {2}, {1, 1}}},
		{"one of three", alt(cat(a, a), b, cat()), []w{nil, {1, 1}, {2}}, []w{{1}, {1, 1, 2}, {2, 2}}},
		{"the same twice", alt(a, a), []w{{1}}, []w{nil, {1, 1}}},
		{"a shorter one ahead", cat(alt(a, cat(a, b)), b), []w{{1, 2}, {1, 2, 2}}, []w{{1}, {1, 2, 2, 2}}},
		{"a longer one ahead", cat(alt(cat(a, b), a), b), []w{{1, 2}, {1, 2, 2}}, []w{{1}, {1, 2, 2, 2}}},
		{"a star", star(a), []w{nil, {1}, {1, 1}, {3, 1, 1}}, []w{{0}, {2}, {1, 2}, {2, 1}, {1, 2, 1}}},
		{"a plus", plus(a), []w{{1}, {1, 1}, {3, 1, 1}}, []w{nil, {0}, {2}, {1, 2}, {2, 1}, {1, 2, 1}}},
		{"an opt", opt(a), []w{nil, {1}, {3}}, []w{{0}, {2}, {1, 1}, {1, 2}}},
		{"a star of a cat", star(cat(a, b)), []w{nil, {1, 2}, {1, 2, 1, 2}}, []w{{1}, {2, 1}, {1, 2, 1}, {1, 1, 2, 2}}},
		{"a plus of a cat", plus(cat(a, b)), []w{{1, 2}, {1, 2, 1, 2}}, []w{nil, {1}, {2, 1}, {1, 2, 1}}},
		{"an opt of a cat", opt(cat(a, b)), []w{nil, {1, 2}}, []w{{1}, {2}, {1, 2, 1, 2}}},
		{"a star of an alternative", star(alt(a, b)), []w{nil, {1, 2, 2, 1}}, []w{{4}, {1, 4, 1}}},
		{"a star of lengths", star(alt(cat(a, a), cat(a, a, a))), []w{nil, {1, 1}, {1, 1, 1}, {1, 1, 1, 1, 1, 1, 1}}, []w{{1}}},
		{"a star of the empty word", star(cat()), []w{nil}, []w{{1}}},
		{"a plus of the empty word", plus(cat()), []w{nil}, []w{{1}}},
		{"an opt of the empty word", opt(cat()), []w{nil}, []w{{1}}},
		{"a star of a star", star(star(a)), []w{nil, {1}, {1, 1}}, []w{{2}, {1, 2}}},
		{"a star of a plus", star(plus(a)), []w{nil, {1}, {1, 1}}, []w{{2}, {1, 2}}},
		{"a star of an opt", star(opt(a)), []w{nil, {1}, {1, 1}}, []w{{2}, {1, 2}}},
		{"a plus of a star", plus(star(a)), []w{nil, {1}, {1, 1}}, []w{{2}, {1, 2}}},
		{"a plus of a plus", plus(plus(a)), []w{{1}, {1, 1}}, []w{nil, {2}, {1, 2}}},
		{"a plus of an opt", plus(opt(a)), []w{nil, {1}, {1, 1}}, []w{{2}, {1, 2}}},
		{"an opt of a star", opt(star(a)), []w{nil, {1}, {1, 1}}, []w{{2}, {1, 2}}},
		{"an opt of a plus", opt(plus(a)), []w{nil, {1}, {1, 1}}, []w{{2}, {1, 2}}},
		{"an opt of an opt", opt(opt(a)), []w{nil, {1}}, []w{{2}, {1, 1}}},
		{"stars one behind the other", cat(star(a), star(b), star(a)), []w{nil, {1, 2, 1}, {2, 2}, {1, 1}}, []w{{2, 1, 2}, {4}}},
		{"a star that has to give back", cat(star(a), a, a), []w{{1, 1}, {1, 1, 1, 1}}, []w{nil, {1}, {2, 1}}},
		{"a star within a star", star(cat(a, star(b))), []w{nil, {1}, {1, 2, 2, 1, 1, 2}}, []w{{2}, {2, 1}}},
		{"a star within a plus", plus(cat(star(a), b)), []w{{2}, {1, 2, 2}, {2, 1, 1, 2}}, []w{nil, {1}, {2, 1}}},
	} {
		t.Run(c.what, func(t *testing.T) {
			if !match.Right(c.n) {
				t.Error("refused")
			}
			for _, x := range c.words {
				if !match.Whole(c.n, x) {
					t.Errorf("%v is none", x)
				}
				holdPlain(t, c.n, x)
			}
			for _, x := range c.no {
				if match.Whole(c.n, x) {
					t.Errorf("%v is one", x)
				}
				holdPlain(t, c.n, x)
			}
		})
	}
}

func TestExamples(t *testing.T) {
	if !match.Whole(star(set(0)), w{1, 1}) || match.Whole(star(set(0)), w{1, 2}) || !match.Suffix(set(0), w{2, 1}) {
		t.Error("the chapter's")
	}
}

func TestEnds(t *testing.T) {
	a, b := set(0), set(1)
	for _, c := range []struct {
		n                     api.Node
		word                  w
		whole, suffix, prefix bool
	}{
		{a, nil, false, false, false},
		{a, w{1}, true, true, true},
		{a, w{1, 2}, false, false, true},
		{a, w{2, 1}, false, true, false},
		{a, w{1, 2, 1}, false, true, true},
		{a, w{2, 1, 2}, false, false, false},
		{cat(), nil, true, true, true},
		{cat(), w{0}, false, true, true},
		{cat(), w{1, 2, 3}, false, true, true},
		{star(a), w{2, 2}, false, true, true},
		{opt(a), w{2, 2}, false, true, true},
		{plus(a), w{2, 2}, false, false, false},
		{plus(a), w{1, 1, 2}, false, false, true},
		{plus(a), w{2, 1, 1}, false, true, false},
		{cat(a, b), w{1, 2}, true, true, true},
		{cat(a, b), w{1}, false, false, false},
		{cat(a, b), w{2}, false, false, false},
		{cat(a, b), w{1, 2, 0}, false, false, true},
		{cat(a, b), w{0, 1, 2}, false, true, false},
		{cat(a, b), w{2, 1}, false, false, false},
		{alt(cat(a, a), cat(b, b, b)), w{0, 2, 2, 2}, false, true, false},
		{alt(cat(a, a), cat(b, b, b)), w{2, 2, 2, 0}, false, false, true},
		{cat(star(a), b), w{2, 1, 1, 2}, false, true, true},
		{cat(star(a), b), w{1, 1, 2, 1}, false, false, true},
		{set(63), w{0, 1 << 63}, false, true, false},
		{set(63), w{1 << 63, 0}, false, false, true},
	} {
		hold(t, c.n, c.word, c.whole, c.suffix, c.prefix)
	}
}

func TestEmptyIsNil(t *testing.T) {
	for _, n := range []api.Node{cat(), {}, {Kids: []api.Node{}}, star(set(3)), {Kind: api.NodeOpt, Kids: []api.Node{{Kind: api.NodeSet, Kids: []api.Node{}}}}} {
		if !match.Right(n) {
			t.Errorf("%v is refused", n)
		}
		hold(t, n, nil, true, true, true)
		hold(t, n, w{}, true, true, true)
		hold(t, n, w{8, 8}[:0], true, true, true)
	}
	if !match.Whole(api.Node{Kind: api.NodeSet, Kids: []api.Node{}}, w{1}) {
		t.Error("a set whose parts are empty, not nil")
	}
}

// wrong are expressions that may not be, each by its topmost node.
func wrong() map[string]api.Node {
	a := set(0)
	l := map[string]api.Node{
		"kind -1":                   {Kind: -1},
		"kind 6":                    {Kind: 6},
		"kind 6, with a part":       {Kind: 6, Kids: []api.Node{a}},
		"kind 7":                    {Kind: 7},
		"the greatest kind":         {Kind: math.MaxInt},
		"the least kind":            {Kind: math.MinInt},
		"kind 2^32":                 {Kind: 1 << 32},
		"the set -1":                set(-1),
		"the set 64":                set(64),
		"the set 65":                set(65),
		"the set 128":               set(128),
		"the greatest set":          set(math.MaxInt),
		"the least set":             set(math.MinInt),
		"the set 2^32":              set(1 << 32),
		"a set with a part":         {Kind: api.NodeSet, Kids: []api.Node{a}},
		"a set with an empty part":  {Kind: api.NodeSet, Kids: []api.Node{{}}},
		"a set with two parts":      {Kind: api.NodeSet, Kids: []api.Node{a, a}},
		"an alternative of none":    alt(),
		"an alternative of nothing": {Kind: api.NodeAlt, Kids: []api.Node{}},
	}
	for what, kind := range map[string]int{"star": api.NodeStar, "plus": api.NodePlus, "opt": api.NodeOpt} {
		l[what+" of none"] = api.Node{Kind: kind}
		l[what+" of nothing"] = api.Node{Kind: kind, Kids: []api.Node{}}
		l[what+" of two"] = api.Node{Kind: kind, Kids: []api.Node{a, a}}
		l[what+" of two empty ones"] = api.Node{Kind: kind, Kids: []api.Node{{}, {}}}
		l[what+" of three"] = api.Node{Kind: kind, Kids: []api.Node{a, a, a}}
	}
	return l
}

// around are expressions with a part at each place at which one may stand.
func around(n api.Node) []api.Node {
	a := set(0)
	return []api.Node{
		star(n), plus(n), opt(n), cat(n), alt(n),
		cat(n, a), cat(a, n), cat(a, n, a), cat(cat(), n), cat(star(a), n),
		alt(n, a), alt(a, n), alt(a, n, a), alt(cat(), n), alt(star(a), n), alt(a, cat(a, n)),
	}
}

func holdWrong(t *testing.T, what string, n api.Node) {
	t.Helper()
	if match.Right(n) {
		t.Errorf("%s: Right(%v)", what, n)
	}
	for _, word := range []w{nil, {}, {0}, {1}, {2}, {1, 1}, {math.MaxUint64}, {3, 2, 1}} {
		hold(t, n, word, false, false, false)
	}
}

func TestMayNotBe(t *testing.T) {
	for what, n := range wrong() {
		holdWrong(t, what, n)
		for _, outer := range around(n) {
			holdWrong(t, what+", within", outer)
			for _, far := range around(outer) {
				holdWrong(t, what+", deep within", far)
			}
		}
		deep := n
		for i := range 1000 {
			deep = api.Node{Kind: []int{api.NodeStar, api.NodeCat, api.NodeOpt, api.NodeAlt, api.NodePlus}[i%5], Kids: []api.Node{deep}}
		}
		holdWrong(t, what+", a thousand deep", deep)
	}
}

func TestRight(t *testing.T) {
	for i := range 64 {
		if !match.Right(set(i)) || !match.Right(star(alt(cat(), set(i)))) {
			t.Errorf("the set %d is refused", i)
		}
		for j := range 64 {
			if match.Whole(set(i), w{1 << j}) != (i == j) || match.Whole(set(i), w{^(1 << j)}) == (i == j) {
				t.Errorf("the set %d, the bit %d", i, j)
			}
		}
	}
	for _, n := range around(alt(set(5))) {
		for _, far := range around(n) {
			if !match.Right(far) {
				t.Errorf("%v is refused", far)
			}
		}
	}
	// Set has a meaning in a NodeSet alone.
	for _, kind := range []int{api.NodeCat, api.NodeAlt, api.NodeStar, api.NodePlus, api.NodeOpt} {
		for _, s := range []int{1, 63, 64, -1, math.MaxInt} {
			if n := (api.Node{Kind: kind, Set: s, Kids: []api.Node{set(0)}}); !match.Right(n) || !match.Whole(n, w{1}) {
				t.Errorf("%v is refused", n)
			}
		}
	}
}

// Every expression of few nodes has the words that the chapter says, and no others, up to a length.
func TestAllSmall(t *testing.T) {
	const signs, most = "\x00\x01\x02\x03", 3
	short := texts(signs, most)
	for _, n := range upTo(5) {
		l := wordsOf(n, signs, most)
		if !match.Right(n) {
			t.Fatalf("%v is refused", n)
		}
		for _, x := range short {
			suffix, prefix := false, false
			for i := range len(x) + 1 {
				suffix, prefix = suffix || l[x[i:]], prefix || l[x[:i]]
			}
			hold(t, n, word(x), l[x], suffix, prefix)
		}
		if t.Failed() {
			return
		}
	}
}

// drawn is any expression of sets below a number, so deep at most.
func drawn(r *rand.Rand, depth, sets int) api.Node {
	if depth == 0 || r.Intn(5) == 0 {
		if r.Intn(8) == 0 {
			return cat()
		}
		return set(r.Intn(sets))
	}
	var parts []api.Node
	for range 1 + r.Intn(3) {
		parts = append(parts, drawn(r, depth-1, sets))
	}
	switch r.Intn(6) {
	case 0:
		return alt(parts...)
	case 1:
		return star(parts[0])
	case 2:
		return plus(parts[0])
	case 3:
		return opt(parts[0])
	}
	return cat(parts...)
}

// drawnWord is any word of signs that have few bits of many, or many of few.
func drawnWord(r *rand.Rand, sets, most int) w {
	word := make(w, r.Intn(most+1))
	for i := range word {
		word[i] = r.Uint64() & r.Uint64()
		if r.Intn(3) > 0 {
			word[i] |= 1 << r.Intn(sets)
		}
	}
	return word
}

func TestDrawn(t *testing.T) {
	r := rand.New(rand.NewSource(10))
	for i := range 20000 {
		sets := []int{1, 2, 3, 64}[i%4]
		n := drawn(r, r.Intn(5), sets)
		holdPlain(t, n, drawnWord(r, sets, 8))
		if t.Failed() {
			return
		}
	}
}

func repeated(sign uint64, count int) w { return slices.Repeat(w{sign}, count) }

func TestLengths(t *testing.T) {
	a, b := set(0), set(1)
	for length := range 200 {
		word := append(repeated(1, length), 2)
		for _, n := range []api.Node{star(a), opt(plus(a)), star(opt(a)), plus(star(a)), plus(alt(cat(), a)), star(cat(a, opt(a)))} {
			hold(t, cat(n, b), word, true, true, true)
			hold(t, n, word, false, true, true)
			hold(t, n, word[:length], true, true, true)
		}
		for _, n := range []api.Node{plus(a), plus(plus(a)), plus(alt(a, cat(a, a, a))), cat(star(opt(a)), a)} {
			hold(t, cat(n, b), word, length > 0, length > 0, length > 0)
			hold(t, n, word, false, false, length > 0)
			hold(t, n, word[:length], length > 0, length > 0, length > 0)
		}
		hold(t, star(cat(a, a, a)), word[:length], length%3 == 0, true, true)
		hold(t, plus(cat(a, a, a)), word[:length], length > 0 && length%3 == 0, length >= 3, length >= 3)
		hold(t, star(alt(cat(a, a, a), cat(a, a, a, a, a))), word[:length], length != 1 && length != 2 && length != 4 && length != 7, true, true)
	}
}

// P10.2

func TestTurn(t *testing.T) {
	a, b, c := set(0), set(1), set(2)
	for _, x := range []struct{ n, turned api.Node }{
		{cat(), cat()},
		{a, a},
		{set(63), set(63)},
		{cat(a), cat(a)},
		{cat(a, b), cat(b, a)},
		{cat(a, b, c), cat(c, b, a)},
		{cat(a, b, c, a), cat(a, c, b, a)},
		{alt(a, b, c), alt(a, b, c)},
		{star(cat(a, b)), star(cat(b, a))},
		{plus(cat(a, b)), plus(cat(b, a))},
		{opt(cat(a, b)), opt(cat(b, a))},
		{star(a), star(a)},
		{alt(cat(a, b), c, cat(b, c)), alt(cat(b, a), c, cat(c, b))},
		{cat(cat(a, b), c), cat(c, cat(b, a))},
		{cat(alt(a, b), star(cat(b, c)), c), cat(c, star(cat(c, b)), alt(a, b))},
		{star(plus(opt(alt(cat(a, cat(b, c)))))), star(plus(opt(alt(cat(cat(c, b), a)))))},
		{api.Node{Set: 7, Kids: []api.Node{a, {Kind: api.NodeAlt, Set: -3, Kids: []api.Node{a, b}}}}, api.Node{Set: 7, Kids: []api.Node{{Kind: api.NodeAlt, Set: -3, Kids: []api.Node{a, b}}, a}}},
		// What may not be has parts, too.
		{api.Node{Kind: 9, Set: 64, Kids: []api.Node{a, cat(a, b)}}, api.Node{Kind: 9, Set: 64, Kids: []api.Node{a, cat(b, a)}}},
		{api.Node{Kind: api.NodeSet, Set: -1, Kids: []api.Node{cat(a, b), a}}, api.Node{Kind: api.NodeSet, Set: -1, Kids: []api.Node{cat(b, a), a}}},
		{api.Node{Kind: api.NodeStar, Kids: []api.Node{cat(a, b), a}}, api.Node{Kind: api.NodeStar, Kids: []api.Node{cat(b, a), a}}},
		{cat(alt(), api.Node{Kind: api.NodePlus}), cat(api.Node{Kind: api.NodePlus}, alt())},
	} {
		got := match.Turn(x.n)
		if !same(got, x.turned) {
			t.Errorf("Turn(%v): %v", x.n, got)
		}
		if back := match.Turn(got); !same(back, x.n) {
			t.Errorf("Turn of Turn(%v): %v", x.n, back)
		}
	}
}

func TestTurnOfTurn(t *testing.T) {
	r := rand.New(rand.NewSource(11))
	for range 3000 {
		n := drawn(r, r.Intn(7), 64)
		before := copied(n)
		got := match.Turn(n)
		if !same(match.Turn(got), n) || !same(n, before) || match.Right(got) != match.Right(n) {
			t.Fatalf("Turn(%v): %v", n, got)
		}
	}
}

// P10.3

func TestTheorem(t *testing.T) {
	const most = 4
	var short []w
	for _, x := range texts("\x01\x02\x03", most) {
		short = append(short, word(x))
	}
	for _, n := range upTo(4) {
		turned := match.Turn(n)
		for _, x := range short {
			in := match.Whole(n, x)
			if match.Whole(turned, reversed(x)) != in {
				t.Errorf("Turn(%v) and %v from behind", n, x)
			}
			if match.Suffix(n, x) != match.Prefix(turned, reversed(x)) || match.Prefix(n, x) != match.Suffix(turned, reversed(x)) {
				t.Errorf("Turn(%v) and the ends of %v", n, x)
			}
			if match.Whole(plus(n), x) != match.Whole(cat(n, star(n)), x) || match.Whole(plus(n), x) != match.Whole(cat(star(n), n), x) {
				t.Errorf("Plus of %v: %v", n, x)
			}
			if match.Whole(opt(n), x) != (in || len(x) == 0) {
				t.Errorf("Opt of %v: %v", n, x)
			}
			if match.Whole(star(star(n)), x) != match.Whole(star(n), x) {
				t.Errorf("Star of Star of %v: %v", n, x)
			}
		}
		if t.Failed() {
			return
		}
	}
}

func parted(x w, first, second api.Node) bool {
	for i := range len(x) + 1 {
		if match.Whole(first, x[:i]) && match.Whole(second, x[i:]) {
			return true
		}
	}
	return false
}

func TestParted(t *testing.T) {
	var short []w
	for _, x := range texts("\x01\x02\x03", 3) {
		short = append(short, word(x))
	}
	l := upTo(3)
	for _, m := range l {
		for _, n := range l {
			both := cat(m, n)
			for _, x := range short {
				if match.Whole(both, x) != parted(x, m, n) {
					t.Fatalf("Cat of %v and %v: %v", m, n, x)
				}
			}
		}
	}
	r := rand.New(rand.NewSource(12))
	for range 3000 {
		l := []api.Node{drawn(r, 3, 2), drawn(r, 3, 2), drawn(r, 3, 2)}
		x := drawnWord(r, 2, 7)
		if match.Whole(cat(l...), x) != parted(x, l[0], cat(l[1:]...)) || match.Whole(cat(l...), x) != parted(x, cat(l[:2]...), l[2]) {
			t.Fatalf("Cat of %v: %v", l, x)
		}
	}
}

func TestTheoremDrawn(t *testing.T) {
	r := rand.New(rand.NewSource(13))
	for range 10000 {
		n, x := drawn(r, 5, 3), drawnWord(r, 3, 12)
		turned := match.Turn(n)
		if match.Whole(turned, reversed(x)) != match.Whole(n, x) || match.Suffix(n, x) != match.Prefix(turned, reversed(x)) {
			t.Fatalf("Turn(%v) and %v", n, x)
		}
		if match.Whole(plus(n), x) != parted(x, n, star(n)) || match.Whole(star(star(n)), x) != match.Whole(star(n), x) {
			t.Fatalf("%v and %v", n, x)
		}
	}
}

// R3, R4

func TestStaysAsItIs(t *testing.T) {
	r := rand.New(rand.NewSource(14))
	for range 2000 {
		n, x := drawn(r, 5, 3), drawnWord(r, 3, 10)
		nodes, signs := copied(n), slices.Clone(x)
		whole, suffix, prefix := match.Whole(n, x), match.Suffix(n, x), match.Prefix(n, x)
		match.Right(n)
		match.Turn(n)
		if !same(n, nodes) || !slices.Equal(x, signs) {
			t.Fatalf("%v, %v: now %v, %v", nodes, signs, n, x)
		}
		hold(t, n, x, whole, suffix, prefix)
	}
}

// spoil changes all parts of an expression, and what room there is behind them.
func spoil(n api.Node) {
	for i := range n.Kids {
		spoil(n.Kids[i])
	}
	n.Kids = n.Kids[:cap(n.Kids)]
	for i := range n.Kids {
		n.Kids[i] = api.Node{Kind: 77}
	}
}

func TestTurnIsOnesOwn(t *testing.T) {
	r := rand.New(rand.NewSource(15))
	for range 2000 {
		n := drawn(r, 5, 3)
		before, want := copied(n), copied(match.Turn(n))
		got := match.Turn(n)
		spoil(got)
		if !same(n, before) {
			t.Fatalf("%v is %v by what was done with Turn of it", before, n)
		}
		got = match.Turn(n)
		spoil(n)
		if !same(got, want) {
			t.Fatalf("Turn of %v is %v by what was done with it", before, got)
		}
	}
}

func TestTurnSharesNothing(t *testing.T) {
	parts := make([]api.Node, 2, 9)
	parts[0], parts[1] = set(0), set(1)
	n := alt(cat(parts...), star(cat(parts...)), api.Node{Kind: 9, Kids: parts}, api.Node{Kind: 9, Kids: parts})
	got := match.Turn(n)
	for i, kid := range got.Kids {
		others := copied(got)
		spoil(kid)
		for j := range got.Kids {
			if j != i && !same(got.Kids[j], others.Kids[j]) {
				t.Errorf("the part %d is the same memory as %d", j, i)
			}
		}
		got = match.Turn(n)
	}
	if !same(parts[0], set(0)) || !same(parts[1], set(1)) || parts[:3][2].Kids != nil || parts[:3][2].Kind != 0 {
		t.Error("the parts were changed")
	}
}

// P1

func nestedIn(kind, depth int, n api.Node) api.Node {
	for range depth {
		n = api.Node{Kind: kind, Kids: []api.Node{n}}
	}
	return n
}

// Deep expressions are asked as fast as others: a step is taken but once from each place.
func TestDeep(t *testing.T) {
	for _, kind := range []int{api.NodeCat, api.NodeAlt, api.NodeStar, api.NodePlus, api.NodeOpt} {
		n := nestedIn(kind, 1<<16, set(0))
		many, none := kind == api.NodeStar || kind == api.NodePlus, kind == api.NodeStar || kind == api.NodeOpt
		if !match.Right(n) {
			t.Errorf("kind %d is refused", kind)
		}
		hold(t, n, nil, none, none, none)
		hold(t, n, w{1}, true, true, true)
		hold(t, n, w{1, 1}, many, true, true)
		hold(t, n, w{1, 0}, false, none, true)
		if match.Turn(n).Kids[0].Kind != kind {
			t.Errorf("kind %d is not turned", kind)
		}
		holdWrong(t, "deep", nestedIn(kind, 1<<16, set(64)))
	}
	n := set(0)
	for i := range 1 << 16 {
		n = api.Node{Kind: i % 2 * api.NodePlus, Kids: []api.Node{n}}
	}
	hold(t, n, w{1, 1, 1}, true, true, true)
}

// Without what is remembered of earlier steps each of these would take longer than anyone waits.
func TestLoopsInLoops(t *testing.T) {
	a, b := set(0), set(1)
	n, m, o := star(a), plus(a), plus(alt(a, cat(a, a)))
	for range 100 {
		n, m, o = star(cat(a, n)), plus(cat(opt(a), m, opt(b))), plus(alt(cat(a, a), cat(opt(a), o)))
	}
	long := repeated(1, 100)
	for _, x := range []api.Node{n, m, o} {
		hold(t, x, long, true, true, true)
		hold(t, x, append(slices.Clone(long), 4), false, match.Whole(x, nil), true)
		hold(t, match.Turn(x), long, true, true, true)
	}
	p := cat()
	for range 1000 {
		p = cat(opt(a), star(a), p)
	}
	hold(t, p, repeated(1, 50), true, true, true)
}

func TestLong(t *testing.T) {
	a, b := set(0), set(1)
	long := repeated(1, 100000)
	hold(t, star(a), long, true, true, true)
	hold(t, star(cat(a, a)), long[1:], false, true, true)
	hold(t, cat(star(alt(a, cat(a, a, a, a))), b), long, false, false, false)
	long[50000] = 2
	hold(t, cat(star(a), b, plus(a)), long, true, true, true)
	hold(t, cat(a, a), long, false, true, true)
	wide := make([]api.Node, 100000)
	for i := range wide {
		wide[i] = opt(a)
	}
	hold(t, cat(wide...), repeated(1, 9), true, true, true)
	hold(t, alt(wide...), repeated(1, 9), false, true, true)
	hold(t, star(alt(wide...)), repeated(1, 9), true, true, true)
}

// An expression that has itself as a part has no end; but the calls have.
func TestWithoutEnd(t *testing.T) {
	for kind := range 7 {
		for count := 1; count <= 3; count++ {
			parts := make([]api.Node, count)
			n := api.Node{Kind: kind, Kids: parts}
			for i := range parts {
				parts[i] = n
			}
			hold(t, n, w{1, 1}, false, false, false)
			if match.Right(n) || !same(match.Turn(n), api.Node{}) {
				t.Errorf("kind %d of %d parts", kind, count)
			}
		}
	}
}

// FuzzMatch reads an expression and a word off bytes.
func FuzzMatch(f *testing.F) {
	f.Add([]byte{3, 1, 0}, []byte{1, 1, 2})
	f.Add([]byte{0, 2, 4, 1, 1, 2}, []byte{3, 2, 1})
	f.Add([]byte{2, 3, 5, 0, 0, 1, 7, 4, 1, 2}, []byte{0, 255})
	f.Fuzz(func(t *testing.T, nodes, signs []byte) {
		if len(nodes) > 24 || len(signs) > 8 {
			return
		}
		n, _ := read(nodes, 5)
		x := word(string(signs))
		if !match.Right(n) {
			t.Fatalf("%v is refused", n)
		}
		holdPlain(t, n, x)
		turned := match.Turn(n)
		if !same(match.Turn(turned), n) || match.Whole(turned, reversed(x)) != match.Whole(n, x) {
			t.Fatalf("Turn(%v): %v", n, turned)
		}
	})
}

// read takes an expression off bytes, and tells the other ones.
func read(b []byte, depth int) (api.Node, []byte) {
	if len(b) < 2 || depth == 0 {
		return cat(), nil
	}
	kind, more := int(b[0])%6, int(b[1])
	b = b[2:]
	if kind == api.NodeSet {
		return set(more % 8), b
	}
	n, count := api.Node{Kind: kind}, 1
	switch kind {
	case api.NodeCat:
		count = more % 4
	case api.NodeAlt:
		count += more % 3
	}
	for range count {
		var part api.Node
		part, b = read(b, depth-1)
		n.Kids = append(n.Kids, part)
	}
	return n, b
}
