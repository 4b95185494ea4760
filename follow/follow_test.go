package follow_test

import (
	"math"
	"math/rand"
	"slices"
	"testing"

	"scansion/api"
	"scansion/follow"
	"scansion/match"
)

type (
	w    = []uint64
	list = []int
)

// built is what Build tells of an expression that may be.
func built(t *testing.T, n api.Node) api.Auto {
	t.Helper()
	a, e := follow.Build(n)
	if e != api.OK {
		t.Fatalf("Build(%v): error %d", n, e)
	}
	return a
}

// P11.1

func TestBuild(t *testing.T) {
	a, b, c := set(0), set(1), set(2)
	for _, x := range []struct {
		what string
		n    api.Node
		want api.Auto
	}{
		{"the chapter's", star(cat(a, b)), api.Auto{Null: true, Sets: list{0, 1}, First: list{1}, Last: list{2}, Follow: []list{{2}, {1}}}},
		{"a set", b, api.Auto{Sets: list{1}, First: list{1}, Last: list{1}, Follow: []list{nil}}},
		{"the set 0", a, api.Auto{Sets: list{0}, First: list{1}, Last: list{1}, Follow: []list{nil}}},
		{"the set 63", set(63), api.Auto{Sets: list{63}, First: list{1}, Last: list{1}, Follow: []list{nil}}},
		{"a cat of none", cat(), api.Auto{Null: true}},
		{"the zero node", api.Node{}, api.Auto{Null: true}},
		{"a cat of empty ones", cat(cat(), opt(cat()), cat()), api.Auto{Null: true}},
		{"a star of nothing", star(cat()), api.Auto{Null: true}},
		{"a plus of nothing", plus(cat()), api.Auto{Null: true}},
		{"an opt of nothing", opt(cat()), api.Auto{Null: true}},
		{"an alternative of nothing", alt(cat()), api.Auto{Null: true}},
		{"a cat", cat(a, b), api.Auto{Sets: list{0, 1}, First: list{1}, Last: list{2}, Follow: []list{{2}, nil}}},
		{"a cat of one", cat(c), api.Auto{Sets: list{2}, First: list{1}, Last: list{1}, Follow: []list{nil}}},
		{"a cat of three", cat(c, b, a), api.Auto{Sets: list{2, 1, 0}, First: list{1}, Last: list{3}, Follow: []list{{2}, {3}, nil}}},
		{"an alternative", alt(a, b, c), api.Auto{Sets: list{0, 1, 2}, First: list{1, 2, 3}, Last: list{1, 2, 3}, Follow: []list{nil, nil, nil}}},
		{"an alternative of one", alt(b), api.Auto{Sets: list{1}, First: list{1}, Last: list{1}, Follow: []list{nil}}},
		{"an alternative with nothing ahead", alt(cat(), a), api.Auto{Null: true, Sets: list{0}, First: list{1}, Last: list{1}, Follow: []list{nil}}},
		{"an alternative with nothing behind", alt(a, cat()), api.Auto{Null: true, Sets: list{0}, First: list{1}, Last: list{1}, Follow: []list{nil}}},
		{"a star", star(a), api.Auto{Null: true, Sets: list{0}, First: list{1}, Last: list{1}, Follow: []list{{1}}}},
		{"a plus", plus(a), api.Auto{Sets: list{0}, First: list{1}, Last: list{1}, Follow: []list{{1}}}},
		{"an opt", opt(a), api.Auto{Null: true, Sets: list{0}, First: list{1}, Last: list{1}, Follow: []list{nil}}},
		{"the same set at several places", cat(a, alt(a, a), a), api.Auto{Sets: list{0, 0, 0, 0}, First: list{1}, Last: list{4}, Follow: []list{{2, 3}, {4}, {4}, nil}}},
		{"a star of a star", star(star(a)), api.Auto{Null: true, Sets: list{0}, First: list{1}, Last: list{1}, Follow: []list{{1}}}},
		{"a plus of a star", plus(star(a)), api.Auto{Null: true, Sets: list{0}, First: list{1}, Last: list{1}, Follow: []list{{1}}}},
		{"a plus of an opt", plus(opt(a)), api.Auto{Null: true, Sets: list{0}, First: list{1}, Last: list{1}, Follow: []list{{1}}}},
		{"a plus of a plus", plus(plus(a)), api.Auto{Sets: list{0}, First: list{1}, Last: list{1}, Follow: []list{{1}}}},
		{"an opt of a star", opt(star(a)), api.Auto{Null: true, Sets: list{0}, First: list{1}, Last: list{1}, Follow: []list{{1}}}},
		{"an opt of an opt", opt(opt(a)), api.Auto{Null: true, Sets: list{0}, First: list{1}, Last: list{1}, Follow: []list{nil}}},
		{"a star of what may be empty", star(cat(opt(a), opt(b))), api.Auto{Null: true, Sets: list{0, 1}, First: list{1, 2}, Last: list{1, 2}, Follow: []list{{1, 2}, {1, 2}}}},
		{"a plus of what may be empty", plus(cat(opt(a), star(b))), api.Auto{Null: true, Sets: list{0, 1}, First: list{1, 2}, Last: list{1, 2}, Follow: []list{{1, 2}, {1, 2}}}},
		{"an opt of what may be empty", opt(cat(opt(a), opt(b))), api.Auto{Null: true, Sets: list{0, 1}, First: list{1, 2}, Last: list{1, 2}, Follow: []list{{2}, nil}}},
		{"what may be empty between two", cat(a, opt(b), c), api.Auto{Sets: list{0, 1, 2}, First: list{1}, Last: list{3}, Follow: []list{{2, 3}, {3}, nil}}},
		{"a star between two", cat(a, star(b), c), api.Auto{Sets: list{0, 1, 2}, First: list{1}, Last: list{3}, Follow: []list{{2, 3}, {2, 3}, nil}}},
		{"a plus between two", cat(a, plus(b), c), api.Auto{Sets: list{0, 1, 2}, First: list{1}, Last: list{3}, Follow: []list{{2}, {2, 3}, nil}}},
		{"nothing between two", cat(a, cat(), c), api.Auto{Sets: list{0, 2}, First: list{1}, Last: list{2}, Follow: []list{{2}, nil}}},
		{"what may be empty ahead", cat(opt(a), opt(b), c), api.Auto{Sets: list{0, 1, 2}, First: list{1, 2, 3}, Last: list{3}, Follow: []list{{2, 3}, {3}, nil}}},
		{"what may be empty behind", cat(a, opt(b), opt(c)), api.Auto{Sets: list{0, 1, 2}, First: list{1}, Last: list{1, 2, 3}, Follow: []list{{2, 3}, {3}, nil}}},
		{"all may be empty", cat(opt(a), star(b), opt(c)), api.Auto{Null: true, Sets: list{0, 1, 2}, First: list{1, 2, 3}, Last: list{1, 2, 3}, Follow: []list{{2, 3}, {2, 3}, nil}}},
		{"an alternative of cats", alt(cat(a, b), cat(b, c)), api.Auto{Sets: list{0, 1, 1, 2}, First: list{1, 3}, Last: list{2, 4}, Follow: []list{{2}, nil, {4}, nil}}},
		{"a cat of alternatives", cat(alt(a, b), alt(b, c)), api.Auto{Sets: list{0, 1, 1, 2}, First: list{1, 2}, Last: list{3, 4}, Follow: []list{{3, 4}, {3, 4}, nil, nil}}},
		{"a star of an alternative", star(alt(cat(a, b), c)), api.Auto{Null: true, Sets: list{0, 1, 2}, First: list{1, 3}, Last: list{2, 3}, Follow: []list{{2}, {1, 3}, {1, 3}}}},
		{"a star within a star", star(cat(a, star(b))), api.Auto{Null: true, Sets: list{0, 1}, First: list{1}, Last: list{1, 2}, Follow: []list{{1, 2}, {1, 2}}}},
		{"a plus ahead of the same", cat(plus(cat(a, b)), a, b), api.Auto{Sets: list{0, 1, 0, 1}, First: list{1}, Last: list{4}, Follow: []list{{2}, {1, 3}, {4}, nil}}},
		{"Set counts in a set alone", api.Node{Set: 99, Kids: []api.Node{{Kind: api.NodeOpt, Set: -5, Kids: []api.Node{c}}}}, api.Auto{Null: true, Sets: list{2}, First: list{1}, Last: list{1}, Follow: []list{nil}}},
		{"empty lists of parts", cat(api.Node{Kind: api.NodeSet, Set: 3, Kids: []api.Node{}}, api.Node{Kids: []api.Node{}}), api.Auto{Sets: list{3}, First: list{1}, Last: list{1}, Follow: []list{nil}}},
	} {
		t.Run(x.what, func(t *testing.T) {
			got := built(t, x.n)
			if !sameAuto(got, x.want) {
				t.Errorf("%v", got)
			}
			if plain := byTraces(x.n); !sameAuto(plain, x.want) {
				t.Errorf("by the traces %v", plain)
			}
			if plain := byMatch(x.n); !sameAuto(plain, x.want) {
				t.Errorf("by words %v", plain)
			}
		})
	}
}

func TestBuildAllSmall(t *testing.T) {
	for _, n := range upTo(6) {
		if got, want := built(t, n), byTraces(n); !sameAuto(got, want) {
			t.Fatalf("Build(%v): %v, not %v", n, got, want)
		}
	}
}

// drawn is any expression of sets below a number, so deep at most.
func drawn(r *rand.Rand, depth, sets int) api.Node {
	if depth == 0 || r.Intn(5) == 0 {
		if r.Intn(8) == 0 {
			return cat()
		}
		return set(r.Intn(sets))
	}
	var parts []api.Node
	for range 1 + r.Intn(3) {
		parts = append(parts, drawn(r, depth-1, sets))
	}
	switch r.Intn(6) {
	case 0:
		return alt(parts...)
	case 1:
		return star(parts[0])
	case 2:
		return plus(parts[0])
	case 3:
		return opt(parts[0])
	}
	return cat(parts...)
}

func TestBuildDrawn(t *testing.T) {
	r := rand.New(rand.NewSource(11))
	for count := 0; count < 1500; {
		n := drawn(r, 1+r.Intn(4), 64)
		if places := len(setsIn(n)); places > 10 {
			continue
		}
		count++
		if got, want := built(t, n), byMatch(n); !sameAuto(got, want) {
			t.Fatalf("Build(%v): %v, not %v", n, got, want)
		}
	}
}

// holdRising holds that a list has places alone, rising, each once.
func holdRising(t *testing.T, what string, l []int, places int) {
	t.Helper()
	for i, p := range l {
		if p < 1 || p > places || i > 0 && l[i-1] >= p {
			t.Fatalf("%s of %d places: %v", what, places, l)
		}
	}
}

func TestListsRise(t *testing.T) {
	r := rand.New(rand.NewSource(12))
	for count := 0; count < 1000; {
		n := drawn(r, 3+r.Intn(5), 64)
		sets := setsIn(n)
		if len(sets) > api.MaxPlace {
			continue
		}
		count++
		a := built(t, n)
		if !slices.Equal(a.Sets, sets) || len(a.Follow) != len(sets) {
			t.Fatalf("%v has the sets %v; %v", n, sets, a)
		}
		holdRising(t, "First", a.First, len(sets))
		holdRising(t, "Last", a.Last, len(sets))
		for _, l := range a.Follow {
			holdRising(t, "Follow", l, len(sets))
		}
	}
}

// shapes are expressions of so many places, at least two.
func shapes(count int) map[string]api.Node {
	wide := many(set(5), count)
	deep, left := set(5), set(5)
	for range count - 1 {
		deep, left = star(cat(set(5), deep)), cat(opt(left), set(5))
	}
	return map[string]api.Node{
		"a cat":                    cat(wide...),
		"an alternative":           alt(wide...),
		"a star of an alternative": star(alt(wide...)),
		"a cat of opts":            cat(many(opt(set(5)), count)...),
		"a plus of a cat of stars": plus(cat(many(star(set(5)), count)...)),
		"one in the other":         deep,
		"one ahead of the other":   left,
		"with empty ones between":  cat(cat(wide[:count/2]...), cat(), star(cat()), alt(cat(), cat(wide[count/2:]...))),
	}
}

func TestMostPlaces(t *testing.T) {
	for count := 2; count <= 300; count += 298 {
		for what, n := range shapes(count) {
			if a := built(t, n); len(a.Sets) != count || len(a.Follow) != count {
				t.Errorf("%s of %d places: %d sets, %d lists", what, count, len(a.Sets), len(a.Follow))
			}
		}
	}
	for _, count := range []int{301, 302, 600, 100000} {
		for what, n := range shapes(min(count, 1000)) {
			holdError(t, what, n, api.ErrFull)
		}
	}
	holdError(t, "very many", cat(many(set(1), 1000000)...), api.ErrFull)
	if a := built(t, cat(many(cat(), 1000)...)); len(a.Sets) != 0 || !a.Null {
		t.Errorf("a thousand nodes of no places: %v", a)
	}
}

func TestManyPlaces(t *testing.T) {
	all := upFrom(1, 300)
	n := star(alt(many(set(9), 300)...))
	a := built(t, n)
	if !a.Null || !slices.Equal(a.First, all) || !slices.Equal(a.Last, all) || !slices.Equal(a.Sets, slices.Repeat(list{9}, 300)) {
		t.Errorf("a star of an alternative: %v", a)
	}
	for p, l := range a.Follow {
		if !slices.Equal(l, all) {
			t.Errorf("behind %d stand %v", p+1, l)
		}
	}
	a = built(t, cat(many(opt(set(9)), 300)...))
	if !a.Null || !slices.Equal(a.First, all) || !slices.Equal(a.Last, all) {
		t.Errorf("a cat of opts: %v", a)
	}
	for p, l := range a.Follow {
		if !slices.Equal(l, all[p+1:]) {
			t.Errorf("behind %d stand %v", p+1, l)
		}
	}
	a = built(t, cat(many(set(9), 300)...))
	if a.Null || !slices.Equal(a.First, list{1}) || !slices.Equal(a.Last, list{300}) {
		t.Errorf("a cat: %v", a)
	}
	for p, l := range a.Follow[:299] {
		if !slices.Equal(l, list{p + 2}) {
			t.Errorf("behind %d stand %v", p+1, l)
		}
	}
	if len(a.Follow[299]) != 0 {
		t.Errorf("behind the last stand %v", a.Follow[299])
	}
}

// wrong are expressions that may not be, each by its topmost node.
func wrong() map[string]api.Node {
	a := set(0)
	l := map[string]api.Node{
		"kind -1":                   {Kind: -1},
		"kind 6":                    {Kind: 6},
		"kind 9":                    {Kind: 9},
		"kind 6, with a part":       {Kind: 6, Kids: []api.Node{a}},
		"the greatest kind":         {Kind: math.MaxInt},
		"the least kind":            {Kind: math.MinInt},
		"the set -1":                set(-1),
		"the set 64":                set(64),
		"the greatest set":          set(math.MaxInt),
		"the least set":             set(math.MinInt),
		"a set with a part":         {Kind: api.NodeSet, Kids: []api.Node{a}},
		"a set with an empty part":  {Kind: api.NodeSet, Kids: []api.Node{{}}},
		"an alternative of none":    alt(),
		"an alternative of nothing": {Kind: api.NodeAlt, Kids: []api.Node{}},
	}
	for what, kind := range map[string]int{"star": api.NodeStar, "plus": api.NodePlus, "opt": api.NodeOpt} {
		l[what+" of none"] = api.Node{Kind: kind}
		l[what+" of nothing"] = api.Node{Kind: kind, Kids: []api.Node{}}
		l[what+" of two"] = api.Node{Kind: kind, Kids: []api.Node{a, a}}
	}
	return l
}

// holdError holds that Build tells an error, and nothing beside it.
func holdError(t *testing.T, what string, n api.Node, want api.Errno) {
	t.Helper()
	a, e := follow.Build(n)
	if e != want {
		t.Errorf("%s: error %d, not %d", what, e, want)
	}
	if a.Null || a.Sets != nil || a.First != nil || a.Last != nil || a.Follow != nil {
		t.Errorf("%s: beside the error %v", what, a)
	}
}

func TestMayNotBe(t *testing.T) {
	a := set(0)
	full := cat(many(a, 301)...)
	for what, n := range wrong() {
		holdError(t, what, n, api.ErrArg)
		for _, outer := range []api.Node{star(n), plus(n), opt(n), cat(n), alt(n), cat(a, n), cat(n, a), alt(a, n), alt(n, a), cat(star(a), alt(a, cat(a, opt(n))), a)} {
			holdError(t, what+", within", outer, api.ErrArg)
			holdError(t, what+", deep within", cat(a, star(alt(cat(), outer)), a), api.ErrArg)
		}
		// ErrArg is named ahead of ErrFull.
		holdError(t, what+", behind too many", cat(full, n), api.ErrArg)
		holdError(t, what+", ahead of too many", cat(n, full), api.ErrArg)
		holdError(t, what+", among too many", alt(full, opt(cat(a, n)), full), api.ErrArg)
	}
	holdError(t, "too many within a set", api.Node{Kind: api.NodeSet, Kids: many(a, 301)}, api.ErrArg)
	holdError(t, "too many within an opt", api.Node{Kind: api.NodeOpt, Kids: many(a, 301)}, api.ErrArg)
}

// P11.2

func TestBegin(t *testing.T) {
	if got := follow.Begin(); !slices.Equal(got, list{0}) {
		t.Errorf("Begin: %v", got)
	}
}

func TestStepAndEnd(t *testing.T) {
	a, b, c := set(0), set(1), set(2)
	loop, parts, none := star(cat(a, b)), cat(alt(a, b), opt(c), alt(cat(a, c), star(b))), cat()
	for _, x := range []struct {
		n    api.Node
		at   []int
		sign uint64
		want []int
		end  bool
	}{
		{loop, list{0}, 1, list{1}, true},
		{loop, list{0}, 3, list{1}, true},
		{loop, list{0}, 2, nil, true},
		{loop, list{0}, 0, nil, true},
		{loop, list{1}, 1, nil, false},
		{loop, list{1}, 2, list{2}, false},
		{loop, list{2}, 2, nil, true},
		{loop, list{2}, 1, list{1}, true},
		{loop, list{2}, math.MaxUint64, list{1}, true},
		{loop, list{1, 2}, 3, list{1, 2}, true},
		{loop, list{0, 1}, 3, list{1, 2}, true},
		{loop, list{0, 1, 2}, 4, nil, true},
		{loop, nil, 3, nil, false},
		{loop, list{}, math.MaxUint64, nil, false},
		// a b | c | a c | b: the places 1 2, 3, 4 5, 6
		{parts, list{0}, 1, list{1}, false},
		{parts, list{0}, 2, list{2}, false},
		{parts, list{0}, 3, list{1, 2}, false},
		{parts, list{0}, 4, nil, false},
		{parts, list{1}, math.MaxUint64, list{3, 4, 6}, true},
		{parts, list{2}, 4, list{3}, true},
		{parts, list{2}, 5, list{3, 4}, true},
		{parts, list{3}, 7, list{4, 6}, true},
		{parts, list{4}, 7, list{5}, false},
		{parts, list{5}, 7, nil, true},
		{parts, list{6}, 7, list{6}, true},
		{parts, list{1, 2, 3, 4, 5, 6}, 7, list{3, 4, 5, 6}, true},
		{parts, list{0, 4}, 7, list{1, 2, 5}, false},
		{parts, list{4, 0}, 7, list{1, 2, 5}, false},
		{parts, list{6, 6, 2, 6}, 6, list{3, 6}, true},
		{none, list{0}, 7, nil, true},
		{none, nil, 7, nil, false},
		{set(63), list{0}, 1 << 63, list{1}, false},
		{set(63), list{0}, math.MaxUint64, list{1}, false},
		{set(63), list{0}, 1<<63 - 1, nil, false},
		{set(63), list{1}, 1 << 63, nil, true},
		{set(0), list{0}, 1, list{1}, false},
		{set(0), list{0}, math.MaxUint64 - 1, nil, false},
		{plus(a), list{0}, 1, list{1}, false},
		{opt(a), list{0}, 1, list{1}, true},
		{opt(a), list{0, 1}, 1, list{1}, true},
		{cat(a, b), list{0, 1}, 3, list{1, 2}, false},
		// Numbers that are no places lead nowhere, and end nothing.
		{loop, list{-1}, 3, nil, false},
		{loop, list{3}, 3, nil, false},
		{loop, list{64, 65, 300, 301}, 3, nil, false},
		{loop, list{math.MaxInt, math.MinInt}, 3, nil, false},
		{loop, list{-1, 1, 3}, 3, list{2}, false},
		{loop, list{math.MaxInt, 2, math.MinInt, 0, -64}, 3, list{1}, true},
		{none, list{1, -1}, 3, nil, false},
		{none, list{1, 0}, 3, nil, true},
	} {
		auto := built(t, x.n)
		if got := follow.Step(auto, x.at, x.sign); !slices.Equal(got, x.want) {
			t.Errorf("Step(%v, %v, %x): %v", x.n, x.at, x.sign, got)
		}
		if got := follow.End(auto, x.at); got != x.end {
			t.Errorf("End(%v, %v): %v", x.n, x.at, got)
		}
	}
}

// someOf are any of the numbers from 0 to the last place, each once or more often, in any order.
func someOf(r *rand.Rand, last int) []int {
	l := make([]int, r.Intn(last+3))
	for i := range l {
		l[i] = r.Intn(last + 1)
	}
	return l
}

func TestStepAndEndDrawn(t *testing.T) {
	r := rand.New(rand.NewSource(13))
	for count := 0; count < 3000; {
		sets := []int{1, 2, 3, 64}[count%4]
		n := drawn(r, 1+r.Intn(6), sets)
		if len(setsIn(n)) > 150 {
			continue
		}
		count++
		a := built(t, n)
		for range 5 {
			at, sign := someOf(r, len(a.Sets)), r.Uint64()|r.Uint64()
			if r.Intn(2) == 0 {
				sign = r.Uint64() & r.Uint64()
			}
			if got, want := follow.Step(a, at, sign), plainStep(a, at, sign); !slices.Equal(got, want) {
				t.Fatalf("Step(%v, %v, %x): %v, not %v", a, at, sign, got, want)
			}
			if got, want := follow.End(a, at), plainEnd(a, at); got != want {
				t.Fatalf("End(%v, %v): %v", a, at, got)
			}
		}
	}
}

func TestStepOfMany(t *testing.T) {
	all := upFrom(1, 300)
	sets := make([]api.Node, 300)
	for i := range sets {
		sets[i] = set(i % 64)
	}
	a := built(t, star(alt(sets...)))
	for _, at := range []list{{0}, {1}, {64}, {65}, {300}, all} {
		if got := follow.Step(a, at, math.MaxUint64); !slices.Equal(got, all) {
			t.Errorf("from %v, any sign: %v", at, got)
		}
		for s := range 64 {
			var want []int
			for p := s + 1; p <= 300; p += 64 {
				want = append(want, p)
			}
			if got := follow.Step(a, at, 1<<s); !slices.Equal(got, want) {
				t.Errorf("from %v, the bit %d: %v", at, s, got)
			}
		}
	}
	a = built(t, cat(sets...))
	for _, p := range all {
		if got := follow.Step(a, list{p}, math.MaxUint64); p < 300 && !slices.Equal(got, list{p + 1}) || p == 300 && len(got) > 0 {
			t.Errorf("behind %d: %v", p, got)
		}
		if follow.End(a, list{p}) != (p == 300) || follow.End(a, all[:p]) != (p == 300) {
			t.Errorf("End at %d", p)
		}
	}
}

// P11.3

// through tells whether a word is one of an expression's, by its places.
func through(a api.Auto, word w) bool {
	at := follow.Begin()
	for _, sign := range word {
		at = follow.Step(a, at, sign)
	}
	return follow.End(a, at)
}

func holdWhole(t *testing.T, n api.Node, a api.Auto, word w) {
	t.Helper()
	if got := through(a, word); got != match.Whole(n, word) {
		t.Fatalf("%v, %v: %v", n, word, got)
	}
}

func TestWordsOfAllSmall(t *testing.T) {
	short := words(4, 3)
	for _, n := range upTo(5) {
		a := built(t, n)
		for _, word := range short {
			holdWhole(t, n, a, word)
		}
	}
}

func TestLongerWordsOfAllSmaller(t *testing.T) {
	for _, n := range upTo(4) {
		a := built(t, n)
		for _, word := range words(3, 6) {
			holdWhole(t, n, a, word)
		}
	}
}

func TestWordsDrawn(t *testing.T) {
	r := rand.New(rand.NewSource(14))
	for count := 0; count < 5000; {
		sets := []int{1, 2, 3, 64}[count%4]
		n := drawn(r, 1+r.Intn(6), sets)
		if len(setsIn(n)) > api.MaxPlace {
			continue
		}
		count++
		a := built(t, n)
		for range 8 {
			word := make(w, r.Intn(12))
			for i := range word {
				word[i] = r.Uint64()&r.Uint64() | 1<<r.Intn(sets)
			}
			holdWhole(t, n, a, word)
		}
	}
}

// Words that a trace tells are taken, sign by sign; and all others are not.
func TestWordsByHand(t *testing.T) {
	a, b, c := set(0), set(1), set(2)
	n := cat(plus(a), opt(b), star(cat(c, a)))
	auto := built(t, n)
	for _, word := range []w{{1}, {1, 1}, {1, 2}, {1, 4, 1}, {1, 2, 4, 1, 4, 1}, {7, 7, 7}, {7, 7, 7, 7}} {
		if !through(auto, word) {
			t.Errorf("%v is none", word)
		}
	}
	for _, word := range []w{nil, {0}, {2}, {1, 2, 2}, {1, 4}, {1, 2, 1}, {1, 4, 1, 2}, {8}, {1, 0}} {
		if through(auto, word) {
			t.Errorf("%v is one", word)
		}
	}
}

// R3, R4

func TestStaysAsItIs(t *testing.T) {
	r := rand.New(rand.NewSource(15))
	for range 1000 {
		n := drawn(r, 4, 5)
		before := copied(n)
		a := built(t, n)
		if !same(n, before) {
			t.Fatalf("%v is %v now", before, n)
		}
		was, at := copiedAuto(a), someOf(r, len(a.Sets))
		from := slices.Clone(at)
		first := follow.Step(a, at, 7)
		end := follow.End(a, at)
		if !sameAuto(a, was) || !slices.Equal(at, from) {
			t.Fatalf("%v, %v are %v, %v now", was, from, a, at)
		}
		if !slices.Equal(follow.Step(a, at, 7), first) || follow.End(a, at) != end || !sameAuto(built(t, n), a) {
			t.Fatalf("%v, %v: not the same again", n, at)
		}
	}
}

// spoil changes all numbers of a list, and what room there is behind them.
func spoil(l []int) {
	l = l[:cap(l)]
	for i := range l {
		l[i] = -77
	}
}

func TestBuildIsOnesOwn(t *testing.T) {
	for what, n := range map[string]api.Node{"a set": set(3), "a star": star(set(3)), "one of one": alt(set(3)), "loop": plus(cat(opt(set(1)), alt(set(2), set(3)), star(set(4)))), "many": star(cat(many(opt(set(1)), 100)...))} {
		want := copiedAuto(built(t, n))
		lists := func(a api.Auto) [][]int { return append([][]int{a.Sets, a.First, a.Last}, a.Follow...) }
		for i := range lists(want) {
			a := built(t, n)
			spoil(lists(a)[i])
			for j, l := range lists(a) {
				if j != i && !slices.Equal(l, lists(want)[j]) {
					t.Errorf("%s: the list %d is the same memory as %d", what, j, i)
				}
			}
		}
		if !sameAuto(built(t, n), want) {
			t.Errorf("%s is not the same again", what)
		}
	}
}

func TestStepIsOnesOwn(t *testing.T) {
	spoil(follow.Begin())
	if !slices.Equal(follow.Begin(), list{0}) {
		t.Error("Begin tells the same memory")
	}
	for _, n := range []api.Node{set(0), star(set(0)), cat(set(0), set(0)), star(alt(set(0), set(1)))} {
		a := built(t, n)
		was := copiedAuto(a)
		for _, at := range []list{{0}, {1}, {0, 1}, {2}, {1, 2}} {
			from := slices.Clone(at)
			spoil(follow.Step(a, at, 3))
			if !sameAuto(a, was) || !slices.Equal(at, from) {
				t.Errorf("%v, %v are changed by what was done with Step's answer", was, from)
			}
		}
	}
}

func TestAnswersStay(t *testing.T) {
	n := star(alt(set(0), cat(set(1), set(2))))
	a := built(t, n)
	want := copiedAuto(a)
	at := list{0, 3}
	next := follow.Step(a, at, 7)
	told := slices.Clone(next)
	n.Kids[0].Kids[0], n.Kids[0].Kids[1].Kids[0] = cat(), set(9)
	if !sameAuto(a, want) {
		t.Errorf("%v: changed with the expression", a)
	}
	spoil(at)
	spoil(a.First)
	for _, l := range a.Follow {
		spoil(l)
	}
	if !slices.Equal(next, told) {
		t.Errorf("%v: changed with what was handed in", next)
	}
}

// P1

// odd are places that Build never tells.
func odd() []api.Auto {
	far := list{math.MinInt, -65, -64, -1, 0, 1, 2, 3, 63, 64, 65, 300, math.MaxInt}
	return []api.Auto{
		{},
		{Null: true},
		{First: far},
		{Last: far},
		{Follow: []list{far}},
		{Sets: list{0}, First: list{1}},
		{Sets: list{0, 0}, First: far, Last: far, Follow: []list{far}},
		{Sets: list{0}, First: far, Last: far, Follow: []list{far, far, far}},
		{Sets: far, First: far, Last: far, Follow: slices.Repeat([]list{far}, len(far))},
		{Sets: list{-1, 64, math.MinInt, math.MaxInt, 63, 0}, First: upFrom(1, 6), Follow: slices.Repeat([]list{nil}, 6)},
		{Null: true, Sets: slices.Repeat(list{0}, 10000), First: upFrom(0, 20000), Last: upFrom(-5, 10000), Follow: slices.Repeat([]list{upFrom(-3, 70)}, 10000)},
	}
}

func TestOdd(t *testing.T) {
	all := append(upFrom(-70, 400), math.MinInt, math.MaxInt)
	for i, a := range odd() {
		for _, at := range []list{nil, {0}, {1}, {-1}, {2, 1, 0}, {1 << 40}, {math.MaxInt, math.MinInt}, all} {
			for _, sign := range []uint64{0, 1, 1 << 63, math.MaxUint64} {
				got := follow.Step(a, at, sign)
				holdRising(t, "Step", got, len(a.Sets))
				for _, p := range got {
					if s := a.Sets[p-1]; s < 0 || s > 63 || sign&(1<<s) == 0 {
						t.Errorf("%d: Step(%v, %x) has %d", i, at, sign, p)
					}
				}
			}
			follow.End(a, at)
		}
	}
	long := slices.Repeat(list{1, 0, 7, -1}, 100000)
	a := built(t, star(alt(many(set(0), 300)...)))
	if got := follow.Step(a, long, 1); len(got) != 300 || !follow.End(a, long) {
		t.Errorf("from very many: %v", got)
	}
}

func nestedIn(kind, depth int, n api.Node) api.Node {
	for range depth {
		n = api.Node{Kind: kind, Kids: []api.Node{n}}
	}
	return n
}

func TestDeep(t *testing.T) {
	for _, kind := range []int{api.NodeCat, api.NodeAlt, api.NodeStar, api.NodePlus, api.NodeOpt} {
		for _, inner := range []api.Node{set(7), alt(many(set(7), 300)...)} {
			n := nestedIn(kind, 1<<16-1, inner)
			a, single := built(t, n), built(t, api.Node{Kind: kind, Kids: []api.Node{inner}})
			if !sameAuto(a, single) {
				t.Errorf("kind %d, deep: %v, not %v", kind, a, single)
			}
		}
		holdError(t, "deep", nestedIn(kind, 1<<16, set(64)), api.ErrArg)
		holdError(t, "deeper than may be", nestedIn(kind, 1<<17, set(0)), api.ErrArg)
	}
	wide := cat(append(many(opt(set(0)), 300), many(star(cat()), 200000)...)...)
	if a := built(t, wide); len(a.Last) != 300 || !a.Null {
		t.Errorf("wide: %v", a)
	}
}

// An expression that has itself as a part has no end; but the calls have.
func TestWithoutEnd(t *testing.T) {
	for kind := range 7 {
		for count := 1; count <= 3; count++ {
			parts := make([]api.Node, count)
			n := api.Node{Kind: kind, Kids: parts}
			for i := range parts {
				parts[i] = n
			}
			holdError(t, "without end", n, api.ErrArg)
		}
	}
}

// FuzzFollow reads an expression and a word off bytes.
func FuzzFollow(f *testing.F) {
	f.Add([]byte{3, 1, 0}, []byte{1, 1, 2})
	f.Add([]byte{0, 2, 4, 1, 1, 2}, []byte{3, 2, 1})
	f.Add([]byte{2, 3, 5, 0, 0, 1, 7, 4, 1, 2}, []byte{0, 255})
	f.Fuzz(func(t *testing.T, nodes, signs []byte) {
		if len(nodes) > 24 || len(signs) > 8 {
			return
		}
		n, _ := read(nodes, 5)
		a := built(t, n)
		if want := byMatch(n); !sameAuto(a, want) {
			t.Fatalf("Build(%v): %v, not %v", n, a, want)
		}
		word := make(w, len(signs))
		for i, sign := range signs {
			word[i] = uint64(sign)
		}
		holdWhole(t, n, a, word)
	})
}

// read takes an expression off bytes, and tells the other ones.
func read(b []byte, depth int) (api.Node, []byte) {
	if len(b) < 2 || depth == 0 {
		return cat(), nil
	}
	kind, more := int(b[0])%6, int(b[1])
	b = b[2:]
	if kind == api.NodeSet {
		return set(more % 8), b
	}
	n, count := api.Node{Kind: kind}, 1
	switch kind {
	case api.NodeCat:
		count = more % 4
	case api.NodeAlt:
		count += more % 3
	}
	for range count {
		var part api.Node
		part, b = read(b, depth-1)
		n.Kids = append(n.Kids, part)
	}
	return n, b
}
