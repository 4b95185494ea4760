package subset_test

import (
	"math"
	"math/rand"
	"slices"
	"testing"

	"scansion/api"
	"scansion/follow"
	"scansion/match"
	"scansion/subset"
)

type (
	m    = []uint64
	list = []int
)

// auto is what follow tells of an expression that may be.
func auto(t *testing.T, n api.Node) api.Auto {
	t.Helper()
	a, e := follow.Build(n)
	if e != api.OK {
		t.Fatalf("follow.Build(%v): error %d", n, e)
	}
	return a
}

// built is what Build tells where it tells no error.
func built(t *testing.T, a api.Auto, masks m, free bool, limit int) api.Dfa {
	t.Helper()
	d, e := subset.Build(a, masks, free, limit)
	if e != api.OK {
		t.Fatalf("Build(%v, %x, %v, %d): error %d", a, masks, free, limit, e)
	}
	return d
}

// holdError holds that Build tells an error, and nothing beside it.
func holdError(t *testing.T, what string, a api.Auto, masks m, free bool, limit int, want api.Errno) {
	t.Helper()
	d, e := subset.Build(a, masks, free, limit)
	if e != want {
		t.Errorf("%s: error %d, not %d", what, e, want)
	}
	if d.Next != nil || d.Final != nil {
		t.Errorf("%s: beside the error %v", what, d)
	}
}

// P12.1

func TestBuild(t *testing.T) {
	a, b, c := set(0), set(1), set(2)
	for _, x := range []struct {
		what  string
		n     api.Node
		masks m
		free  bool
		next  []list
		final []bool
	}{
		{"the chapter's", star(cat(a, b)), m{1, 2}, false, []list{{1, 2}, {2, 3}, {2, 2}, {1, 2}}, []bool{true, false, false, true}},
		{"the chapter's, free", star(cat(a, b)), m{1, 2}, true, []list{{1, 0}, {1, 2}, {1, 0}}, []bool{true, true, true}},
		{"the chapter's, masks in the other order", star(cat(a, b)), m{2, 1}, false, []list{{1, 2}, {1, 1}, {3, 1}, {1, 2}}, []bool{true, false, false, true}},
		{"a set", a, m{1}, false, []list{{1}, {2}, {2}}, []bool{false, true, false}},
		{"a set, free", a, m{1}, true, []list{{1}, {1}}, []bool{false, true}},
		{"nothing", cat(), m{1}, false, []list{{1}, {1}}, []bool{true, false}},
		{"nothing, free", cat(), m{1}, true, []list{{0}}, []bool{true}},
		{"nothing, by another way", star(alt(cat(), opt(cat()))), m{0, 1}, false, []list{{1, 1}, {1, 1}}, []bool{true, false}},
		{"a mask of no bits", a, m{0}, false, []list{{1}, {1}}, []bool{false, false}},
		{"a mask of no bits, free", a, m{0}, true, []list{{0}}, []bool{false}},
		{"a mask of other bits", a, m{math.MaxUint64 - 1}, false, []list{{1}, {1}}, []bool{false, false}},
		{"masks of several bits", b, m{1, 2, 3}, false, []list{{1, 2, 2}, {1, 1, 1}, {1, 1, 1}}, []bool{false, false, true}},
		{"an alternative: states of the same words stay apart", alt(a, b), m{1, 2, 3}, false, []list{{1, 2, 3}, {4, 4, 4}, {4, 4, 4}, {4, 4, 4}, {4, 4, 4}}, []bool{false, true, true, true, false}},
		{"an alternative, free", alt(a, b), m{1, 2, 3}, true, []list{{1, 2, 3}, {1, 2, 3}, {1, 2, 3}, {1, 2, 3}}, []bool{false, true, true, true}},
		{"an alternative with nothing", alt(a, cat()), m{1}, false, []list{{1}, {2}, {2}}, []bool{true, true, false}},
		{"a star", star(a), m{1, 0}, false, []list{{1, 2}, {1, 2}, {2, 2}}, []bool{true, true, false}},
		{"a plus", plus(a), m{1, 0}, false, []list{{1, 2}, {1, 2}, {2, 2}}, []bool{false, true, false}},
		{"a plus, free", plus(a), m{1, 0}, true, []list{{1, 0}, {1, 0}}, []bool{false, true}},
		{"an opt", opt(a), m{1}, false, []list{{1}, {2}, {2}}, []bool{true, true, false}},
		{"a cat", cat(a, b), m{2, 1}, false, []list{{1, 2}, {1, 1}, {3, 1}, {1, 1}}, []bool{false, false, false, true}},
		{"a cat of the same, free", cat(a, a), m{1, 2}, true, []list{{1, 0}, {2, 0}, {2, 0}}, []bool{false, false, true}},
		{"a cat with what may be empty between", cat(a, opt(b), c), m{1, 2, 4}, false, []list{{1, 2, 2}, {2, 3, 4}, {2, 2, 2}, {2, 2, 4}, {2, 2, 2}}, []bool{false, false, false, false, true}},
		{"the same mask twice", star(a), m{1, 1}, false, []list{{1, 1}, {1, 1}}, []bool{true, true}},
		{"the same mask twice, not side by side", plus(a), m{1, 2, 1, 2}, false, []list{{1, 2, 1, 2}, {1, 2, 1, 2}, {2, 2, 2, 2}}, []bool{false, true, false}},
		{"masks of the same places", star(a), m{1, 3, 5}, false, []list{{1, 1, 1}, {1, 1, 1}}, []bool{true, true}},
		{"several places at once", cat(star(alt(a, b)), a), m{1, 2}, false, []list{{1, 2}, {1, 2}, {1, 2}}, []bool{false, true, false}},
		{"several places at once, free", cat(a, star(b), alt(b, cat(b, a))), m{1, 2}, true, []list{{1, 0}, {1, 2}, {3, 2}, {1, 2}}, []bool{false, false, true, true}},
		{"the set 63", set(63), m{1 << 63, 1<<63 - 1, math.MaxUint64}, false, []list{{1, 2, 1}, {2, 2, 2}, {2, 2, 2}}, []bool{false, true, false}},
		{"all states of a row ahead of those behind it", alt(cat(a, a), cat(b, b)), m{1, 2}, false, []list{{1, 2}, {3, 4}, {4, 5}, {4, 4}, {4, 4}, {4, 4}}, []bool{false, false, false, true, false, true}},
	} {
		t.Run(x.what, func(t *testing.T) {
			want := api.Dfa{Next: x.next, Final: x.final}
			places := auto(t, x.n)
			if got := built(t, places, x.masks, x.free, 5000); !same(got, want) {
				t.Errorf("%v, not %v", got, want)
			}
			if plain, few := plainBuild(places, x.masks, x.free, 5000); !few || !same(plain, want) {
				t.Errorf("plainly %v", plain)
			}
			holdLimit(t, places, x.masks, x.free)
		})
	}
}

// holdLimit holds that the limit is just the count of states, and that it tells nothing of them.
func holdLimit(t *testing.T, a api.Auto, masks m, free bool) {
	t.Helper()
	d := built(t, a, masks, free, 5000)
	count := len(d.Next)
	if got := built(t, a, masks, free, count); !same(got, d) {
		t.Errorf("limit %d: %v, not %v", count, got, d)
	}
	if count < 5000 && !same(built(t, a, masks, free, count+1), d) {
		t.Errorf("limit %d: other states than without", count+1)
	}
	for limit := max(1, count-3); limit < count; limit++ {
		holdError(t, "fewer than there are", a, masks, free, limit, api.ErrState)
	}
	if count > 1 {
		holdError(t, "limit 1", a, masks, free, 1, api.ErrState)
	}
}

// holdStates holds Build against the states that are told plainly.
func holdStates(t *testing.T, n api.Node, masks m, free bool, limit int) {
	t.Helper()
	a := auto(t, n)
	plain, few := plainBuild(a, masks, free, limit)
	if !few {
		holdError(t, "too many states", a, masks, free, limit, api.ErrState)
		return
	}
	d := built(t, a, masks, free, limit)
	if !same(d, plain) {
		t.Fatalf("Build(%v, %x, %v): %v, not %v", n, masks, free, d, plain)
	}
	holdForm(t, d, len(masks))
}

// holdForm holds what is to be seen of states alone: how many entries they have, and that they are counted as they are met.
func holdForm(t *testing.T, d api.Dfa, classes int) {
	t.Helper()
	if len(d.Final) != len(d.Next) || !subset.Right(d) {
		t.Fatalf("%v may not be", d)
	}
	met := 1
	for at, row := range d.Next {
		if len(row) != classes || at >= met {
			t.Fatalf("%v: %d classes, the state %d was not met", d, len(row), at)
		}
		for _, state := range row {
			if state > met {
				t.Fatalf("%v: %d is met ahead of %d", d, state, met)
			}
			met = max(met, state+1)
		}
	}
	if met != len(d.Next) {
		t.Fatalf("%v: %d are met", d, met)
	}
}

func TestBuildAllSmall(t *testing.T) {
	for _, n := range upTo(5) {
		for _, masks := range []m{{1}, {1, 2}, {3, 0, 1, 2, 3}} {
			holdStates(t, n, masks, false, 5000)
			holdStates(t, n, masks, true, 5000)
		}
	}
}

// drawn is any expression of sets below a number, so deep at most.
func drawn(r *rand.Rand, depth, sets int) api.Node {
	if depth == 0 || r.Intn(5) == 0 {
		if r.Intn(8) == 0 {
			return cat()
		}
		return set(r.Intn(sets))
	}
	var parts []api.Node
	for range 1 + r.Intn(3) {
		parts = append(parts, drawn(r, depth-1, sets))
	}
	switch r.Intn(6) {
	case 0:
		return alt(parts...)
	case 1:
		return star(parts[0])
	case 2:
		return plus(parts[0])
	case 3:
		return opt(parts[0])
	}
	return cat(parts...)
}

// drawnMasks are any masks of sets below a number: of few bits, or of many, and some of them twice.
func drawnMasks(r *rand.Rand, count, sets int) m {
	l := make(m, count)
	for i := range l {
		switch r.Intn(5) {
		case 0:
			l[i] = l[r.Intn(i+1)]
		case 1:
			l[i] = r.Uint64()
		default:
			l[i] = 1<<r.Intn(sets) | 1<<r.Intn(sets)
		}
	}
	return l
}

func TestBuildDrawn(t *testing.T) {
	r := rand.New(rand.NewSource(21))
	for count := 0; count < 3000; {
		sets := []int{1, 2, 3, 8, 64}[count%5]
		n := drawn(r, 1+r.Intn(6), sets)
		if placesOf(n) > api.MaxPlace {
			continue
		}
		count++
		holdStates(t, n, drawnMasks(r, 1+r.Intn(7), sets), count%2 == 0, 1+r.Intn(300))
	}
}

func TestLimitDrawn(t *testing.T) {
	r := rand.New(rand.NewSource(22))
	for range 500 {
		n, masks := drawn(r, 1+r.Intn(4), 3), drawnMasks(r, 1+r.Intn(4), 3)
		a := auto(t, n)
		if _, e := subset.Build(a, masks, true, 400); e != api.OK {
			continue
		}
		holdLimit(t, a, masks, true)
		if _, e := subset.Build(a, masks, false, 400); e == api.OK {
			holdLimit(t, a, masks, false)
		}
	}
}

func TestHowManyMasks(t *testing.T) {
	n := plus(alt(set(0), cat(set(1), set(2))))
	a := auto(t, n)
	r := rand.New(rand.NewSource(23))
	masks := drawnMasks(r, 1000, 3)
	for _, count := range []int{1, 2, 63, 64, 65, 199, 200} {
		for _, free := range []bool{false, true} {
			holdForm(t, built(t, a, masks[:count], free, 100), count)
			holdStates(t, n, masks[:count], free, 100)
		}
	}
	for _, free := range []bool{false, true} {
		for _, limit := range []int{1, 100, 5000} {
			holdError(t, "nil masks", a, nil, free, limit, api.ErrArg)
			holdError(t, "no masks", a, m{}, free, limit, api.ErrArg)
			for _, count := range []int{201, 202, 255, 256, 400, 1000} {
				holdError(t, "too many masks", a, masks[:count], free, limit, api.ErrArg)
			}
		}
	}
	holdError(t, "very many masks", a, make(m, 1<<20), false, 5000, api.ErrArg)
}

func TestWhichLimits(t *testing.T) {
	wrong := []int{0, -1, -2, -5000, 5001, 5002, 10000, 1 << 32, 1<<32 + 1, math.MaxInt, math.MinInt}
	for what, n := range map[string]api.Node{"one state, free": cat(), "some states": cat(set(0), set(1)), "very many states": behindOne(100)} {
		a := auto(t, n)
		for _, limit := range wrong {
			// More states than the limit, too: but ErrArg is named first.
			holdError(t, what, a, m{1, 2}, true, limit, api.ErrArg)
			holdError(t, what, a, m{1, 2}, false, limit, api.ErrArg)
			holdError(t, what+", no masks", a, nil, true, limit, api.ErrArg)
			holdError(t, what+", too many masks", a, make(m, 201), false, limit, api.ErrArg)
		}
		// So it is with masks that may not be, where a limit may.
		holdError(t, what+", too many masks", a, slices.Repeat(m{1, 2, 3}, 67), false, 1, api.ErrArg)
		holdError(t, what+", no masks", a, nil, false, 1, api.ErrArg)
	}
	if d := built(t, auto(t, cat()), m{1, 2}, true, 1); !same(d, api.Dfa{Next: []list{{0, 0}}, Final: []bool{true}}) {
		t.Errorf("limit 1: %v", d)
	}
	holdError(t, "limit 1, two states", auto(t, cat()), m{1, 2}, false, 1, api.ErrState)
	for _, limit := range []int{2, 3, 4999, 5000} {
		built(t, auto(t, cat()), m{1, 2}, false, limit)
	}
}

// countedMasks are those of the classes of counted.
var countedMasks = m{1, 2, 4, 8, 16}

// counted is an expression of 4868 states and one for each of so many signs of one more word (not free, by countedMasks).
func counted(chain int) api.Node {
	return alt(behindOne(11), cat(set(3), behindOne(8)), cat(set(4), behindOne(7)), cat(many(set(2), chain)...))
}

func TestMostStates(t *testing.T) {
	for chain := 131; chain <= 132; chain++ {
		a := auto(t, counted(chain))
		if d := built(t, a, countedMasks, false, 5000); len(d.Next) != 4868+chain {
			t.Errorf("%d states", len(d.Next))
		}
		holdLimit(t, a, countedMasks, false)
	}
	holdStates(t, counted(132), countedMasks, false, 5000)
	for _, chain := range []int{133, 134, 200} {
		holdError(t, "more than 5000", auto(t, counted(chain)), countedMasks, false, 5000, api.ErrState)
	}
}

// Where there are more states than could ever be gone through, the limit ends it.
func TestFarTooManyStates(t *testing.T) {
	for _, far := range []int{13, 30, 148} {
		a := auto(t, behindOne(far))
		for _, limit := range []int{1, 2, 10, 5000} {
			holdError(t, "far too many", a, m{1, 2}, false, limit, api.ErrState)
			holdError(t, "far too many, free", a, m{1, 2}, true, limit, api.ErrState)
			holdError(t, "far too many, many masks", a, slices.Repeat(m{1, 2, 3, 0}, 50), false, limit, api.ErrState)
		}
	}
}

// Sets of places are told apart, whatever figures these have.
func TestPlacesOfSeveralFigures(t *testing.T) {
	for _, x := range [][2]list{{{1, 12}, {112}}, {{1, 11}, {111}}, {{2, 11}, {211}}, {{1, 2, 3}, {123}}, {{1, 2, 3}, {12}}, {{1, 23}, {12, 13}}, {{1}, {257}}, {{44}, {300}}, {{1, 2}, {258}}, {{10}, {100}}} {
		parts := many(set(0), 300)
		for i, places := range x {
			for _, place := range places {
				parts[place-1] = set(i + 1)
			}
		}
		d := built(t, auto(t, alt(parts...)), m{2, 4}, false, 5000)
		if want := []list{{1, 2}, {3, 3}, {3, 3}, {3, 3}}; !sameLists(d.Next, want) {
			t.Errorf("%v: %v", x, d)
		}
	}
}

func TestManyPlaces(t *testing.T) {
	a := auto(t, cat(many(set(7), 300)...))
	d := built(t, a, m{1 << 7}, false, 5000)
	if len(d.Next) != 302 {
		t.Fatalf("%d states", len(d.Next))
	}
	for at, row := range d.Next {
		if row[0] != min(at+1, 301) || d.Final[at] != (at == 300) {
			t.Errorf("%d: %v, %v", at, row, d.Final[at])
		}
	}
	// Free, each sign more leads to one place more.
	d = built(t, a, m{0, 1 << 7}, true, 301)
	for at, row := range d.Next {
		if !slices.Equal(row, list{0, min(at+1, 300)}) || d.Final[at] != (at == 300) {
			t.Errorf("free, %d: %v, %v", at, row, d.Final[at])
		}
	}
	for _, n := range []api.Node{cat(many(opt(set(7)), 300)...), star(alt(many(set(7), 300)...)), plus(cat(many(star(set(7)), 300)...))} {
		holdStates(t, n, m{0, 1 << 7}, false, 5000)
		holdStates(t, n, m{0, 1 << 7}, true, 5000)
	}
}

// P12.2

func TestRight(t *testing.T) {
	good := api.Dfa{Next: []list{{1, 2}, {2, 0}, {2, 2}}, Final: []bool{true, false, true}}
	changed := func(change func(d *api.Dfa)) api.Dfa {
		d := copied(good)
		change(&d)
		return d
	}
	for _, x := range []struct {
		what string
		d    api.Dfa
		want bool
	}{
		{"three states", good, true},
		{"one state", toFirst(1, 1), true},
		{"states that nothing leads to", toFirst(7, 3), true},
		{"no states", api.Dfa{}, false},
		{"no states, not nil", api.Dfa{Next: []list{}, Final: []bool{}}, false},
		{"no states, one entry", api.Dfa{Final: []bool{true}}, false},
		{"5000 states", toFirst(5000, 2), true},
		{"5000 states of 200 classes", toFirst(5000, 200), true},
		{"5001 states", toFirst(5001, 2), false},
		{"very many states", toFirst(100000, 1), false},
		{"1 class", toFirst(3, 1), true},
		{"199 classes", toFirst(3, 199), true},
		{"200 classes", toFirst(3, 200), true},
		{"201 classes", toFirst(3, 201), false},
		{"1000 classes", toFirst(1, 1000), false},
		{"no classes", toFirst(3, 0), false},
		{"no classes of one state", toFirst(1, 0), false},
		{"rows that are nil", api.Dfa{Next: make([]list, 3), Final: make([]bool, 3)}, false},
		{"no Final", changed(func(d *api.Dfa) { d.Final = nil }), false},
		{"a shorter Final", changed(func(d *api.Dfa) { d.Final = d.Final[:2] }), false},
		{"a longer Final", changed(func(d *api.Dfa) { d.Final = append(d.Final, true) }), false},
		{"a shorter Next", changed(func(d *api.Dfa) { d.Next = []list{{0, 0}, {1, 1}} }), false},
		{"the first row shorter", changed(func(d *api.Dfa) { d.Next[0] = list{1} }), false},
		{"the second row shorter", changed(func(d *api.Dfa) { d.Next[1] = list{1} }), false},
		{"the last row shorter", changed(func(d *api.Dfa) { d.Next[2] = list{1} }), false},
		{"the first row longer", changed(func(d *api.Dfa) { d.Next[0] = list{1, 1, 1} }), false},
		{"the last row longer", changed(func(d *api.Dfa) { d.Next[2] = list{1, 1, 1} }), false},
		{"the first row of none", changed(func(d *api.Dfa) { d.Next[0] = nil }), false},
		{"the last row of none", changed(func(d *api.Dfa) { d.Next[2] = list{} }), false},
		{"the first row of 200", changed(func(d *api.Dfa) { d.Next[0] = make(list, 200) }), false},
		{"the last row of 201", changed(func(d *api.Dfa) { d.Next[2] = make(list, 201) }), false},
		{"the first number below 0", changed(func(d *api.Dfa) { d.Next[0][0] = -1 }), false},
		{"the last number below 0", changed(func(d *api.Dfa) { d.Next[2][1] = -1 }), false},
		{"the last state", changed(func(d *api.Dfa) { d.Next[0][0] = 2 }), true},
		{"the first number too great", changed(func(d *api.Dfa) { d.Next[0][0] = 3 }), false},
		{"the last number too great", changed(func(d *api.Dfa) { d.Next[2][1] = 3 }), false},
		{"a number in the middle too great", changed(func(d *api.Dfa) { d.Next[1][1] = 4 }), false},
		{"the greatest number", changed(func(d *api.Dfa) { d.Next[1][0] = math.MaxInt }), false},
		{"the least number", changed(func(d *api.Dfa) { d.Next[1][0] = math.MinInt }), false},
	} {
		if got := subset.Right(x.d); got != x.want {
			t.Errorf("%s: %v", x.what, got)
		}
		s, e := subset.Run(x.d, 0, nil)
		if want := map[bool]api.Errno{true: api.OK, false: api.ErrArg}[x.want]; s != 0 || e != want {
			t.Errorf("%s: Run tells %d, %d", x.what, s, e)
		}
	}
}

func TestRightOfMany(t *testing.T) {
	d := toFirst(5000, 200)
	for _, at := range []int{0, 1, 2500, 4999} {
		for _, class := range []int{0, 100, 199} {
			for _, state := range []int{4999, 5000, -1, 5001} {
				d.Next[at][class] = state
				if got := subset.Right(d); got != (state == 4999) {
					t.Errorf("the state %d from %d by %d: %v", state, at, class, got)
				}
			}
			d.Next[at][class] = 0
		}
	}
}

// drawnStates are any that may be.
func drawnStates(r *rand.Rand) api.Dfa {
	d := toFirst(1+r.Intn(6), 1+r.Intn(4))
	for at, row := range d.Next {
		d.Final[at] = r.Intn(2) == 0
		for class := range row {
			row[class] = r.Intn(len(d.Next))
		}
	}
	return d
}

// spoilt are states one thing of which is another.
func spoilt(r *rand.Rand, d api.Dfa) api.Dfa {
	at := r.Intn(len(d.Next))
	switch row := d.Next[at]; r.Intn(5) {
	case 0:
		d.Final = make([]bool, r.Intn(8))
	case 1:
		d.Next[at] = make(list, r.Intn(6))
	case 2:
		d.Next = d.Next[:at]
	case 3:
		d.Next = append(d.Next, slices.Clone(row))
	default:
		row[r.Intn(len(row))] = r.Intn(12) - 3
	}
	return d
}

func TestRightDrawn(t *testing.T) {
	r := rand.New(rand.NewSource(24))
	for range 20000 {
		d := drawnStates(r)
		if !subset.Right(d) {
			t.Fatalf("%v may be", d)
		}
		d = spoilt(r, d)
		if got := subset.Right(d); got != plainRight(d) {
			t.Fatalf("Right(%v): %v", d, got)
		}
	}
}

func TestRun(t *testing.T) {
	d := api.Dfa{Next: []list{{1, 2, 0}, {2, 0, 1}, {3, 3, 2}, {0, 3, 1}}, Final: make([]bool, 4)}
	for _, x := range []struct {
		at      int
		classes list
		want    int
		e       api.Errno
	}{
		{0, nil, 0, api.OK},
		{0, list{}, 0, api.OK},
		{3, nil, 3, api.OK},
		{0, list{0}, 1, api.OK},
		{0, list{1}, 2, api.OK},
		{0, list{2}, 0, api.OK},
		{0, list{0, 0}, 2, api.OK},
		{0, list{0, 1}, 0, api.OK},
		{0, list{1, 0, 2}, 1, api.OK},
		{2, list{1, 1, 0, 0, 2}, 1, api.OK},
		{3, list{2, 1, 1, 2}, 2, api.OK},
		{-1, nil, 0, api.ErrArg},
		{4, nil, 0, api.ErrArg},
		{4, list{0}, 0, api.ErrArg},
		{-1, list{0}, 0, api.ErrArg},
		{math.MaxInt, list{0}, 0, api.ErrArg},
		{math.MinInt, list{0}, 0, api.ErrArg},
		{1, list{3}, 0, api.ErrArg},
		{1, list{-1}, 0, api.ErrArg},
		{1, list{3, 0}, 0, api.ErrArg},
		{1, list{0, 3}, 0, api.ErrArg},
		{1, list{0, -1}, 0, api.ErrArg},
		{1, list{0, -1, 0}, 0, api.ErrArg},
		{1, list{0, 0, 0, math.MaxInt}, 0, api.ErrArg},
		{1, list{0, 0, 0, math.MinInt}, 0, api.ErrArg},
		{-1, list{-1}, 0, api.ErrArg},
		{4, list{3}, 0, api.ErrArg},
	} {
		if got, e := subset.Run(d, x.at, x.classes); got != x.want || e != x.e {
			t.Errorf("Run(%d, %v): %d, %d", x.at, x.classes, got, e)
		}
	}
}

func TestRunOfWhatMayNotBe(t *testing.T) {
	far := toFirst(3, 2)
	far.Next[2][1] = 3
	short := toFirst(3, 2)
	short.Final = short.Final[:2]
	uneven := toFirst(3, 2)
	uneven.Next[2] = list{0, 0, 0}
	for what, d := range map[string]api.Dfa{"no states": {}, "5001 states": toFirst(5001, 1), "no classes": toFirst(2, 0), "201 classes": toFirst(2, 201), "a number that is no state": far, "too few Final": short, "rows of several lengths": uneven} {
		for _, at := range []int{0, 1, -1, 3, 5000, 6000} {
			for _, classes := range []list{nil, {0}, {1, 0}, {-1}, {2}, {200}} {
				if s, e := subset.Run(d, at, classes); s != 0 || e != api.ErrArg {
					t.Errorf("%s: Run(%d, %v): %d, %d", what, at, classes, s, e)
				}
			}
		}
	}
}

func TestRunDrawn(t *testing.T) {
	r := rand.New(rand.NewSource(25))
	for range 20000 {
		d := drawnStates(r)
		at, classes := r.Intn(len(d.Next)), make(list, r.Intn(9))
		for i := range classes {
			classes[i] = r.Intn(len(d.Next[0]))
		}
		want := at
		for _, class := range classes {
			want = d.Next[want][class]
		}
		if got, e := subset.Run(d, at, classes); got != want || e != api.OK {
			t.Fatalf("Run(%v, %d, %v): %d, %d", d, at, classes, got, e)
		}
		if len(classes) == 0 {
			continue
		}
		classes[r.Intn(len(classes))] = []int{-1, len(d.Next[0])}[r.Intn(2)]
		if got, e := subset.Run(d, at, classes); got != 0 || e != api.ErrArg {
			t.Fatalf("Run(%v, %d, %v): %d, %d", d, at, classes, got, e)
		}
	}
}

func TestRunFar(t *testing.T) {
	d := toFirst(5000, 200)
	for at, row := range d.Next {
		row[0], row[199] = (at+1)%5000, (at+4999)%5000
	}
	if s, e := subset.Run(d, 4999, slices.Repeat(list{0}, 1000001)); s != 0 || e != api.OK {
		t.Errorf("there: %d, %d", s, e)
	}
	if s, e := subset.Run(d, 3, slices.Repeat(list{199}, 1000004)); s != 4999 || e != api.OK {
		t.Errorf("back: %d, %d", s, e)
	}
	if s, e := subset.Run(d, 3, append(slices.Repeat(list{199}, 1000000), 200)); s != 0 || e != api.ErrArg {
		t.Errorf("at last no class: %d, %d", s, e)
	}
}

// P12.3

// holdWord holds that a word ends in a Final state just if it is one of the expression's, or, if free, ends with one.
func holdWord(t *testing.T, n api.Node, d api.Dfa, masks m, free bool, word list) {
	t.Helper()
	s, e := subset.Run(d, 0, word)
	if e != api.OK {
		t.Fatalf("%v, %x, %v: Run(%v): error %d", n, masks, free, word, e)
	}
	want := match.Whole(n, signs(masks, word))
	if free {
		want = match.Suffix(n, signs(masks, word))
	}
	if d.Final[s] != want {
		t.Fatalf("%v, %x, %v: %v leads to %d, Final %v", n, masks, free, word, s, d.Final[s])
	}
}

func TestWordsOfAllSmall(t *testing.T) {
	masks := m{2, 0, 3, 1}
	short := words(4, 3)
	for _, n := range upTo(5) {
		for _, free := range []bool{false, true} {
			d := built(t, auto(t, n), masks, free, 5000)
			for _, word := range short {
				holdWord(t, n, d, masks, free, word)
			}
		}
	}
}

func TestLongerWordsOfAllSmaller(t *testing.T) {
	masks := m{1, 2, 3}
	long := words(3, 6)
	for _, n := range upTo(4) {
		for _, free := range []bool{false, true} {
			d := built(t, auto(t, n), masks, free, 5000)
			for _, word := range long {
				holdWord(t, n, d, masks, free, word)
			}
		}
	}
}

func TestWordsDrawn(t *testing.T) {
	r := rand.New(rand.NewSource(26))
	for count := 0; count < 4000; {
		sets := []int{1, 2, 3, 64}[count%4]
		n := drawn(r, 1+r.Intn(5), sets)
		if placesOf(n) > api.MaxPlace {
			continue
		}
		count++
		masks := drawnMasks(r, 1+r.Intn(6), sets)
		for _, free := range []bool{false, true} {
			d, e := subset.Build(auto(t, n), masks, free, 1000)
			if e == api.ErrState {
				continue
			}
			for range 10 {
				word := make(list, r.Intn(12))
				for i := range word {
					word[i] = r.Intn(len(masks))
				}
				holdWord(t, n, d, masks, free, word)
			}
		}
	}
}

func TestWordsByHand(t *testing.T) {
	n := cat(plus(set(0)), opt(set(1)), star(cat(set(2), set(0))))
	masks := m{1, 2, 4, 7, 0}
	whole, free := built(t, auto(t, n), masks, false, 5000), built(t, auto(t, n), masks, true, 5000)
	for _, x := range []struct {
		word       list
		one, ended bool
	}{
		{nil, false, false},
		{list{0}, true, true},
		{list{0, 0}, true, true},
		{list{0, 1}, true, true},
		{list{0, 2, 0}, true, true},
		{list{0, 1, 2, 0, 2, 0}, true, true},
		{list{3, 3, 3}, true, true},
		{list{1}, false, false},
		{list{4}, false, false},
		{list{1, 0}, false, true},
		{list{4, 4, 0}, false, true},
		{list{0, 4}, false, false},
		{list{0, 2}, false, false},
		{list{0, 1, 1}, false, false},
		{list{2, 2, 0, 2, 0, 1}, false, true},
		{list{0, 1, 1, 0, 1}, false, true},
		{list{0, 1, 1, 0, 1, 1}, false, false},
	} {
		for _, y := range []struct {
			d    api.Dfa
			want bool
		}{{whole, x.one}, {free, x.ended}} {
			if s, e := subset.Run(y.d, 0, x.word); e != api.OK || y.d.Final[s] != y.want {
				t.Errorf("%v leads to %d, error %d; Final should be %v", x.word, s, e, y.want)
			}
		}
	}
}

func TestWordsOfManyStates(t *testing.T) {
	r := rand.New(rand.NewSource(27))
	n := counted(132)
	d := built(t, auto(t, n), countedMasks, false, 5000)
	for range 3000 {
		word := make(list, r.Intn(20))
		for i := range word {
			word[i] = r.Intn(2)
		}
		if len(word) > 0 {
			word[0] = r.Intn(5)
		}
		holdWord(t, n, d, countedMasks, false, word)
	}
	for count := 130; count <= 134; count++ {
		holdWord(t, n, d, countedMasks, false, slices.Repeat(list{2}, count))
	}
}

// R3, R4

func TestStaysAsItIs(t *testing.T) {
	r := rand.New(rand.NewSource(28))
	for range 1000 {
		a, masks := auto(t, drawn(r, 3, 3)), drawnMasks(r, 1+r.Intn(4), 3)
		places, were, free := copiedAuto(a), slices.Clone(masks), r.Intn(2) == 0
		d, e := subset.Build(a, masks, free, 200)
		if !sameAuto(a, places) || !slices.Equal(masks, were) {
			t.Fatalf("%v, %x are %v, %x now", places, were, a, masks)
		}
		again, f := subset.Build(a, masks, free, 200)
		if !same(d, again) || e != f {
			t.Fatalf("%v, %d; not the same again: %v, %d", d, e, again, f)
		}
		if e != api.OK {
			continue
		}
		before, word := copied(d), make(list, 5)
		for i := range word {
			word[i] = r.Intn(len(masks))
		}
		told := slices.Clone(word)
		s, _ := subset.Run(d, 0, word)
		s2, _ := subset.Run(d, 0, word)
		if subset.Right(d); s != s2 || !same(d, before) || !slices.Equal(word, told) {
			t.Fatalf("%v, %v are %v, %v now", before, told, d, word)
		}
	}
}

// spoil changes all numbers of a list, and what room there is behind them.
func spoil(l []int) {
	l = l[:cap(l)]
	for i := range l {
		l[i] = -77
	}
}

func TestBuildIsOnesOwn(t *testing.T) {
	for what, n := range map[string]api.Node{"nothing": cat(), "a set": set(0), "a star": star(set(0)), "several": plus(cat(opt(set(1)), alt(set(0), set(2)), star(set(1)))), "many": cat(many(opt(set(1)), 100)...)} {
		for _, free := range []bool{false, true} {
			a := auto(t, n)
			places := copiedAuto(a)
			masks := m{1, 2, 4, 1}
			want := copied(built(t, a, masks, free, 5000))
			for i := range want.Next {
				d := built(t, a, masks, free, 5000)
				spoil(d.Next[i])
				for j, row := range d.Next {
					if j != i && !slices.Equal(row, want.Next[j]) {
						t.Errorf("%s: the row %d is the same memory as %d", what, j, i)
					}
				}
				if !slices.Equal(d.Final, want.Final) || !sameAuto(a, places) {
					t.Errorf("%s: the row %d is the same memory as another thing", what, i)
				}
			}
			if !same(built(t, a, masks, free, 5000), want) {
				t.Errorf("%s is not the same again", what)
			}
		}
	}
}

func TestAnswersStay(t *testing.T) {
	a, masks := auto(t, star(alt(set(0), cat(set(1), set(2))))), m{1, 2, 4}
	d := built(t, a, masks, false, 100)
	want := copied(d)
	for _, l := range append([]list{a.Sets, a.First, a.Last}, a.Follow...) {
		spoil(l)
	}
	clear(masks)
	if !same(d, want) {
		t.Errorf("%v: changed with what was handed in", d)
	}
}

// P1

// odd are places that follow never tells.
func odd() []api.Auto {
	far := list{math.MinInt, -65, -64, -1, 0, 1, 2, 3, 63, 64, 65, 300, math.MaxInt}
	upFrom := func(low, high int) (l list) {
		for ; low <= high; low++ {
			l = append(l, low)
		}
		return l
	}
	return []api.Auto{
		{},
		{Null: true},
		{First: far},
		{Last: far},
		{Follow: []list{far}},
		{Sets: list{0}, First: list{1}},
		{Sets: list{0, 0}, First: far, Last: far, Follow: []list{far}},
		{Sets: list{0}, First: far, Last: far, Follow: []list{far, far, far}},
		{Sets: far, First: far, Last: far, Follow: slices.Repeat([]list{far}, len(far))},
		{Sets: list{-1, 64, math.MinInt, math.MaxInt, 63, 0}, First: upFrom(1, 6), Last: list{0, 0}, Follow: slices.Repeat([]list{nil}, 6)},
		{Null: true, Sets: slices.Repeat(list{0}, 10000), First: upFrom(0, 20000), Last: upFrom(-5, 10000), Follow: slices.Repeat([]list{upFrom(-3, 70)}, 10000)},
	}
}

func TestOdd(t *testing.T) {
	for i, a := range odd() {
		for _, masks := range []m{nil, {0}, {1}, {math.MaxUint64, 1 << 63, 0, 1}, make(m, 200), make(m, 201)} {
			for _, limit := range []int{math.MinInt, -1, 0, 1, 2, 50, 5000, 5001, math.MaxInt} {
				for _, free := range []bool{false, true} {
					d, e := subset.Build(a, masks, free, limit)
					if e == api.OK && (!subset.Right(d) || len(d.Next) > limit) || e != api.OK && (d.Next != nil || d.Final != nil) {
						t.Errorf("%d: Build(%d masks, %v, %d): %v, %d", i, len(masks), free, limit, d, e)
					}
				}
			}
		}
	}
}

// FuzzSubset reads an expression, masks and a word off bytes.
func FuzzSubset(f *testing.F) {
	f.Add([]byte{3, 0, 0, 2, 1, 0, 1, 1}, []byte{1, 2}, []byte{0, 1, 0, 1}, false)
	f.Add([]byte{0, 2, 4, 0, 1, 1, 1, 2}, []byte{3, 2, 1, 3}, []byte{3, 2, 1}, true)
	f.Add([]byte{2, 3, 5, 0, 0, 1, 1, 7, 4, 1, 1, 2}, []byte{0, 255}, []byte{0, 1, 0}, true)
	f.Fuzz(func(t *testing.T, nodes, bits, classes []byte, free bool) {
		if len(nodes) > 40 || len(bits) == 0 || len(bits) > 8 || len(classes) > 12 {
			return
		}
		n, _ := read(nodes, 6)
		masks, word := make(m, len(bits)), make(list, len(classes))
		for i, b := range bits {
			masks[i] = uint64(b)
		}
		for i, b := range classes {
			word[i] = int(b) % len(masks)
		}
		holdStates(t, n, masks, free, 300)
		if d, e := subset.Build(auto(t, n), masks, free, 5000); e == api.OK {
			holdWord(t, n, d, masks, free, word)
		}
	})
}

// read takes an expression off bytes, and tells the other ones.
func read(b []byte, depth int) (api.Node, []byte) {
	if len(b) < 2 || depth == 0 {
		return cat(), nil
	}
	kind, more := int(b[0])%6, int(b[1])
	b = b[2:]
	if kind == api.NodeSet {
		return set(more % 8), b
	}
	n, count := api.Node{Kind: kind}, 1
	switch kind {
	case api.NodeCat:
		count = more % 4
	case api.NodeAlt:
		count += more % 3
	}
	for range count {
		var part api.Node
		part, b = read(b, depth-1)
		n.Kids = append(n.Kids, part)
	}
	return n, b
}
