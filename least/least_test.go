package least_test

import (
	"math"
	"math/rand"
	"slices"
	"testing"

	"scansion/api"
	"scansion/follow"
	"scansion/least"
	"scansion/match"
	"scansion/subset"
)

type list = []int

// least1 is what Least tells where it tells no error.
func least1(t *testing.T, d api.Dfa) api.Dfa {
	t.Helper()
	l, e := least.Least(d)
	if e != api.OK {
		t.Fatalf("Least of %d states: error %d", len(d.Next), e)
	}
	return l
}

// brief is what a fault tells of states: not thousands of them.
func brief(d api.Dfa) any {
	if len(d.Next) > 20 {
		return len(d.Next)
	}
	return d
}

// holdLeast holds that Least tells what it should, and, of what it told, what is to be seen of that alone.
func holdLeast(t *testing.T, d, want api.Dfa) {
	t.Helper()
	l := least1(t, d)
	if !same(l, want) {
		t.Fatalf("Least of %v: %v, not %v", brief(d), brief(l), brief(want))
	}
	if !subset.Right(l) {
		t.Fatalf("Least of %v may not be", brief(d))
	}
	if again := least1(t, l); !same(again, l) {
		t.Fatalf("Least of %v is %v, and of that %v", brief(d), brief(l), brief(again))
	}
	holdAlike(t, d, l)
	holdAlike(t, l, d)
	holdAlike(t, d, d)
}

// holdAlike holds that two have the same words.
func holdAlike(t *testing.T, a, b api.Dfa) {
	t.Helper()
	if is, e := least.Alike(a, b); !is || e != api.OK {
		t.Fatalf("Alike(%v, %v): %v, %d", brief(a), brief(b), is, e)
	}
	if w, is, e := least.Apart(a, b); len(w) != 0 || is || e != api.OK {
		t.Fatalf("Apart(%v, %v): %v, %v, %d", brief(a), brief(b), w, is, e)
	}
}

// holdApart holds which word is the first one that parts two, in either order.
func holdApart(t *testing.T, a, b api.Dfa, want list) {
	t.Helper()
	for _, x := range [][2]api.Dfa{{a, b}, {b, a}} {
		if is, e := least.Alike(x[0], x[1]); is || e != api.OK {
			t.Fatalf("Alike(%v, %v): %v, %d", brief(x[0]), brief(x[1]), is, e)
		}
		if w, is, e := least.Apart(x[0], x[1]); !slices.Equal(w, want) || !is || e != api.OK {
			t.Fatalf("Apart(%v, %v): %v (%d classes), %v, %d, not %v", brief(x[0]), brief(x[1]), w, len(w), is, e, want)
		}
	}
}

// holdPair holds what should be told of two.
func holdPair(t *testing.T, a, b api.Dfa, word list, apart bool) {
	t.Helper()
	if apart {
		holdApart(t, a, b, word)
		return
	}
	holdAlike(t, a, b)
	holdAlike(t, b, a)
}

// P13.1

func TestLeast(t *testing.T) {
	for _, x := range []struct {
		what  string
		next  []list
		final []bool
		least []list
		ends  []bool
	}{
		{"the chapter's", []list{{1}, {0}}, []bool{true, true}, []list{{0}}, []bool{true}},
		{"the chapter's, of three classes", []list{{1, 1, 1}, {0, 0, 0}}, []bool{true, true}, []list{{0, 0, 0}}, []bool{true}},
		{"one state", []list{{0}}, []bool{false}, []list{{0}}, []bool{false}},
		{"one Final state", []list{{0}}, []bool{true}, []list{{0}}, []bool{true}},
		{"one state, four classes", []list{{0, 0, 0, 0}}, []bool{true}, []list{{0, 0, 0, 0}}, []bool{true}},
		{"two that lead to one another, one Final", []list{{1}, {0}}, []bool{true, false}, []list{{1}, {0}}, []bool{true, false}},
		{"two that lead to one another, the other one Final", []list{{1}, {0}}, []bool{false, true}, []list{{1}, {0}}, []bool{false, true}},
		{"none Final", []list{{1, 2}, {2, 0}, {0, 1}}, []bool{false, false, false}, []list{{0, 0}}, []bool{false}},
		{"all Final", []list{{1, 2}, {2, 0}, {0, 1}}, []bool{true, true, true}, []list{{0, 0}}, []bool{true}},
		{"all apart", []list{{1}, {2}, {3}, {3}}, []bool{false, false, false, true}, []list{{1}, {2}, {3}, {3}}, []bool{false, false, false, true}},
		{"the first one alike a later one", []list{{1}, {2}, {1}}, []bool{true, false, true}, []list{{1}, {0}}, []bool{true, false}},
		{"the first one alike the last one alone", []list{{1, 2}, {1, 1}, {2, 3}, {1, 2}}, []bool{false, true, false, false}, []list{{1, 2}, {1, 1}, {2, 0}}, []bool{false, true, false}},
		{"the first one is never come back to", []list{{1}, {2}, {1}}, []bool{false, true, true}, []list{{1}, {1}}, []bool{false, true}},
		{"one that is not led to", []list{{0}, {0}}, []bool{false, true}, []list{{0}}, []bool{false}},
		{"one that is not led to, alike the first one", []list{{0}, {0}}, []bool{true, true}, []list{{0}}, []bool{true}},
		{"one that is not led to, between others", []list{{2}, {1}, {0}}, []bool{true, true, false}, []list{{1}, {0}}, []bool{true, false}},
		{"those not led to lead to one another", []list{{0, 3}, {2, 1}, {1, 2}, {3, 0}}, []bool{false, true, true, true}, []list{{0, 1}, {1, 0}}, []bool{false, true}},
		{"one not led to is apart from all others by where it leads", []list{{1}, {1}, {0}}, []bool{false, true, false}, []list{{1}, {1}}, []bool{false, true}},
		{"one not led to is the only one that leads to a Final one", []list{{1}, {1}, {3}, {3}}, []bool{false, false, false, true}, []list{{0}}, []bool{false}},
		{"counted in another order", []list{{3, 2}, {1, 1}, {2, 1}, {0, 3}}, []bool{false, true, false, true}, []list{{1, 2}, {0, 1}, {2, 3}, {3, 3}}, []bool{false, true, false, true}},
		{"all classes of a state ahead of the next one's", []list{{4, 1}, {3, 3}, {2, 2}, {2, 1}, {4, 3}}, []bool{false, true, true, false, false}, []list{{1, 2}, {1, 3}, {3, 3}, {4, 2}, {4, 4}}, []bool{false, false, true, false, true}},
		{"told apart by the second class alone", []list{{1, 2}, {3, 3}, {3, 4}, {3, 3}, {4, 4}}, []bool{false, false, false, false, true}, []list{{1, 2}, {1, 1}, {1, 3}, {3, 3}}, []bool{false, false, false, true}},
		{"two alike behind the first one", []list{{1, 2}, {3, 4}, {3, 4}, {3, 3}, {4, 4}}, []bool{false, false, false, true, false}, []list{{1, 1}, {2, 3}, {2, 2}, {3, 3}}, []bool{false, false, true, false}},
		{"alike as their followers are alike", []list{{1, 2}, {3, 3}, {4, 4}, {5, 5}, {6, 6}, {5, 5}, {6, 6}}, []bool{false, false, false, false, false, true, true}, []list{{1, 1}, {2, 2}, {3, 3}, {3, 3}}, []bool{false, false, false, true}},
		{"apart by a word of three", []list{{1, 2}, {3, 3}, {4, 4}, {5, 5}, {6, 6}, {5, 5}, {6, 6}}, []bool{false, false, false, false, false, true, false}, []list{{1, 2}, {3, 3}, {2, 2}, {4, 4}, {4, 4}}, []bool{false, false, false, false, true}},
		{"a circle of four, gone round twice", []list{{1}, {2}, {3}, {0}}, []bool{true, false, true, false}, []list{{1}, {0}}, []bool{true, false}},
		{"a circle of four, gone round once", []list{{1}, {2}, {3}, {0}}, []bool{true, false, false, false}, []list{{1}, {2}, {3}, {0}}, []bool{true, false, false, false}},
		{"circles of two and of four", []list{{1, 3}, {2, 3}, {1, 3}, {4, 4}, {5, 5}, {6, 6}, {3, 3}}, []bool{false, true, false, true, false, true, false}, []list{{1, 2}, {0, 2}, {3, 3}, {2, 2}}, []bool{false, true, true, false}},
	} {
		t.Run(x.what, func(t *testing.T) {
			d := api.Dfa{Next: x.next, Final: x.final}
			want := api.Dfa{Next: x.least, Final: x.ends}
			holdLeast(t, d, want)
			if plain := plainLeast(d); !same(plain, want) {
				t.Errorf("plainly %v", plain)
			}
			if rounds := leastByRounds(d); !same(rounds, want) {
				t.Errorf("by rounds %v", rounds)
			}
		})
	}
}

// The states that subset.Build tells, of each kind of expression.
func TestLeastOfExpressions(t *testing.T) {
	a, b := set(0), set(1)
	for _, x := range []struct {
		what  string
		n     api.Node
		free  bool
		next  []list
		final []bool
	}{
		{"a set", a, false, []list{{1, 2, 1}, {2, 2, 2}, {2, 2, 2}}, []bool{false, true, false}},
		{"a set, free", a, true, []list{{1, 0, 1}, {1, 0, 1}}, []bool{false, true}},
		{"nothing", cat(), false, []list{{1, 1, 1}, {1, 1, 1}}, []bool{true, false}},
		{"nothing, free", cat(), true, []list{{0, 0, 0}}, []bool{true}},
		{"a set that no class is in", set(7), false, []list{{0, 0, 0}}, []bool{false}},
		{"a set that no class is in, free", set(7), true, []list{{0, 0, 0}}, []bool{false}},
		{"a cat", cat(a, b), false, []list{{1, 2, 1}, {2, 3, 3}, {2, 2, 2}, {2, 2, 2}}, []bool{false, false, false, true}},
		{"a cat, free", cat(a, b), true, []list{{1, 0, 1}, {1, 2, 3}, {1, 0, 1}, {1, 2, 3}}, []bool{false, false, true, true}},
		{"an alternative", alt(a, b), false, []list{{1, 1, 1}, {2, 2, 2}, {2, 2, 2}}, []bool{false, true, false}},
		{"an alternative, free", alt(a, b), true, []list{{1, 1, 1}, {1, 1, 1}}, []bool{false, true}},
		{"an alternative of the same", alt(a, a), false, []list{{1, 2, 1}, {2, 2, 2}, {2, 2, 2}}, []bool{false, true, false}},
		{"a star", star(a), false, []list{{0, 1, 0}, {1, 1, 1}}, []bool{true, false}},
		{"a star, free", star(a), true, []list{{0, 0, 0}}, []bool{true}},
		{"a star of all", star(alt(a, b)), false, []list{{0, 0, 0}}, []bool{true}},
		{"a plus", plus(a), false, []list{{1, 2, 1}, {1, 2, 1}, {2, 2, 2}}, []bool{false, true, false}},
		{"a plus, free", plus(a), true, []list{{1, 0, 1}, {1, 0, 1}}, []bool{false, true}},
		{"an opt", opt(a), false, []list{{1, 2, 1}, {2, 2, 2}, {2, 2, 2}}, []bool{true, true, false}},
		{"an opt, free", opt(a), true, []list{{0, 0, 0}}, []bool{true}},
		{"a star of a cat", star(cat(a, b)), false, []list{{1, 2, 1}, {2, 0, 0}, {2, 2, 2}}, []bool{true, false, false}},
	} {
		d := built(t, x.n, []uint64{1, 2, 3}, x.free)
		if want := (api.Dfa{Next: x.next, Final: x.final}); !same(plainLeast(d), want) {
			t.Errorf("%s: plainly %v", x.what, plainLeast(d))
		} else {
			holdLeast(t, d, want)
		}
	}
}

// built are the states of an expression that may be.
func built(t *testing.T, n api.Node, masks []uint64, free bool) api.Dfa {
	t.Helper()
	a, e := follow.Build(n)
	if e != api.OK {
		t.Fatalf("follow.Build(%v): error %d", n, e)
	}
	d, e := subset.Build(a, masks, free, api.MaxState)
	if e != api.OK {
		t.Fatalf("subset.Build(%v): error %d", n, e)
	}
	return d
}

func TestLeastAllSmall(t *testing.T) {
	for _, x := range []struct{ states, classes int }{{1, 1}, {2, 1}, {3, 1}, {4, 1}, {1, 2}, {2, 2}, {3, 2}, {1, 3}, {2, 3}, {2, 4}} {
		for _, d := range allStates(x.states, x.classes) {
			want := plainLeast(d)
			holdLeast(t, d, want)
			for _, w := range words(x.classes, 3) {
				if takes(want, 0, w) != takes(d, 0, w) {
					t.Fatalf("%v: %v is a word of one of them", d, w)
				}
			}
		}
	}
}

func TestLeastDrawn(t *testing.T) {
	r := rand.New(rand.NewSource(31))
	for range 3000 {
		d := drawnStates(r, 1+r.Intn(30), 1+r.Intn(4), 1+r.Intn(12))
		holdLeast(t, d, plainLeast(d))
	}
	for range 1000 {
		d := least1(t, drawnStates(r, 1+r.Intn(9), 1+r.Intn(3), 1+r.Intn(4)))
		holdLeast(t, blown(r, d, len(d.Next)+r.Intn(40)), d)
		holdLeast(t, shuffled(r, d), d)
	}
}

// The parts are told apart by what leads where, whatever figures their numbers have.
func TestLeastOfManyParts(t *testing.T) {
	r := rand.New(rand.NewSource(32))
	for range 40 {
		states, classes := 2+r.Intn(400), 1+r.Intn(200)
		d := drawnStates(r, states, classes, 2+r.Intn(30))
		want := leastByRounds(d)
		holdLeast(t, d, want)
		holdLeast(t, blown(r, want, 3*states), want)
	}
	for range 60 {
		// With most classes leading back, parts are told apart by few of them.
		d := drawnStates(r, 2+r.Intn(300), 1+r.Intn(100), 2+r.Intn(300))
		for state, row := range d.Next {
			for class := range row {
				if r.Intn(10) > 0 {
					row[class] = state / 3
				}
			}
		}
		holdLeast(t, d, leastByRounds(d))
	}
}

// States are told apart by which one class it is that leads on, whichever two these are.
func TestEachClassTellsApart(t *testing.T) {
	for _, classes := range []int{1, 2, 3, 100, 199, 200} {
		final, nowhere := classes+1, classes+2
		d := stepping(classes+3, classes, func(state, class int) int {
			switch {
			case state == 0:
				return class + 1
			case state == class+1:
				return final
			}
			return nowhere
		}, func(state int) bool { return state == final })
		want := leastByRounds(d)
		if len(want.Next) != classes+3 {
			t.Fatalf("%d classes: by rounds %d states", classes, len(want.Next))
		}
		holdLeast(t, d, want)
	}
}

func TestLeastOfMostStates(t *testing.T) {
	r := rand.New(rand.NewSource(33))
	one := toFirst(1, 200)
	holdLeast(t, toFirst(5000, 200), one)
	notLedTo := toFirst(5000, 200)
	notLedTo.Final[4999] = true
	holdLeast(t, notLedTo, one)
	one.Final[0] = true
	holdLeast(t, circle(5000, 200, all), one)
	holdLeast(t, shuffled(r, drawnStates(r, 5000, 200, 1)), one)
	for _, classes := range []int{1, 200} {
		long := chain(5000, classes)
		holdLeast(t, long, long)
		holdLeast(t, shuffled(r, long), long)
		half := chain(2500, classes)
		holdLeast(t, blown(r, half, 5000), half)
		round := circle(5000, classes, func(state int) bool { return state == 2499 })
		holdLeast(t, round, round)
		holdLeast(t, circle(5000, classes, func(state int) bool { return state%2500 == 2499 }), circle(2500, classes, func(state int) bool { return state == 2499 }))
	}
	d := drawnStates(r, 5000, 200, 2)
	holdLeast(t, d, leastByRounds(d))
	some := least1(t, drawnStates(r, 50, 200, 5))
	holdLeast(t, blown(r, some, 5000), some)
}

// States that only long words tell apart, and each class leads elsewhere.
func TestLeastOfFarApart(t *testing.T) {
	back := stepping(5000, 200, func(state, class int) int { return max(0, state-class-1) }, func(state int) bool { return state == 0 })
	back.Next[0] = slices.Repeat(list{4999}, 200)
	for state, final := range least1(t, back).Final {
		if final != (state == 0) {
			t.Fatalf("%d: %v", state, final)
		}
	}
	if count := len(least1(t, back).Next); count != 5000 {
		t.Errorf("%d states", count)
	}
	// Only the last class leads on; all others stay.
	last := stepping(5000, 200, func(state, class int) int {
		if class < 199 {
			return state
		}
		return min(state+1, 4999)
	}, func(state int) bool { return state == 4999 })
	holdLeast(t, last, last)
	last.Final[4999] = false
	holdLeast(t, last, toFirst(1, 200))
	// A state is the last twelve classes: how long ago each one was tells all of them apart.
	twos := stepping(4096, 2, func(state, class int) int { return (2*state + class) % 4096 }, func(state int) bool { return state >= 2048 })
	if count := len(least1(t, twos).Next); count != 4096 {
		t.Errorf("%d states", count)
	}
}

// P13.1, P13.2: the errors

// mayNotBe are states that may not be, of two classes as far as they have any.
func mayNotBe() map[string]api.Dfa {
	changed := func(change func(d *api.Dfa)) api.Dfa {
		d := toFirst(3, 2)
		change(&d)
		return d
	}
	return map[string]api.Dfa{
		"no states":                  {},
		"no states, not nil":         {Next: []list{}, Final: []bool{}},
		"no states, one Final":       {Final: []bool{true}},
		"5001 states":                toFirst(5001, 2),
		"no classes":                 toFirst(3, 0),
		"201 classes":                toFirst(3, 201),
		"too few Final":              changed(func(d *api.Dfa) { d.Final = d.Final[:2] }),
		"too many Final":             changed(func(d *api.Dfa) { d.Final = append(d.Final, true) }),
		"no Final":                   changed(func(d *api.Dfa) { d.Final = nil }),
		"the first row shorter":      changed(func(d *api.Dfa) { d.Next[0] = list{0} }),
		"the last row longer":        changed(func(d *api.Dfa) { d.Next[2] = list{0, 0, 0} }),
		"the last row of none":       changed(func(d *api.Dfa) { d.Next[2] = nil }),
		"the first number too great": changed(func(d *api.Dfa) { d.Next[0][0] = 3 }),
		"the last number too great":  changed(func(d *api.Dfa) { d.Next[2][1] = 3 }),
		"the first number below 0":   changed(func(d *api.Dfa) { d.Next[0][0] = -1 }),
		"the last number below 0":    changed(func(d *api.Dfa) { d.Next[2][1] = -1 }),
		"the greatest number":        changed(func(d *api.Dfa) { d.Next[1][1] = math.MaxInt }),
		"the least number":           changed(func(d *api.Dfa) { d.Next[1][1] = math.MinInt }),
	}
}

// holdPairError holds that two are told an error of, and nothing beside it.
func holdPairError(t *testing.T, what string, a, b api.Dfa) {
	t.Helper()
	if is, e := least.Alike(a, b); is || e != api.ErrArg {
		t.Errorf("%s: Alike: %v, %d", what, is, e)
	}
	if w, is, e := least.Apart(a, b); w != nil || is || e != api.ErrArg {
		t.Errorf("%s: Apart: %v, %v, %d", what, w, is, e)
	}
}

func TestWhatMayNotBe(t *testing.T) {
	for what, d := range mayNotBe() {
		if l, e := least.Least(d); l.Next != nil || l.Final != nil || e != api.ErrArg {
			t.Errorf("%s: Least: %v, %d", what, l, e)
		}
		for _, good := range []api.Dfa{toFirst(1, 2), toFirst(3, 2), chain(4, 2), toFirst(3, 1), toFirst(3, 200)} {
			holdPairError(t, what+", at the first place", d, good)
			holdPairError(t, what+", at the second place", good, d)
		}
		holdPairError(t, what+", itself", d, d)
		for other, d2 := range mayNotBe() {
			holdPairError(t, what+" and "+other, d, d2)
		}
	}
}

func TestNotAsManyClasses(t *testing.T) {
	counts := []int{1, 2, 3, 100, 199, 200}
	for _, i := range counts {
		for _, j := range counts {
			for _, states := range []int{1, 3} {
				a, b := chain(states, i), chain(3, j)
				if i != j {
					holdPairError(t, "not as many classes", a, b)
					// Also where they differ at the first state.
					holdPairError(t, "not as many classes", circle(2, i, all), b)
				} else if _, _, e := least.Apart(a, b); e != api.OK {
					t.Errorf("%d classes: error %d", i, e)
				}
			}
		}
	}
}

// spoilt are states one thing of which is another.
func spoilt(r *rand.Rand, d api.Dfa) api.Dfa {
	at := r.Intn(len(d.Next))
	switch row := d.Next[at]; r.Intn(5) {
	case 0:
		d.Final = make([]bool, r.Intn(8))
	case 1:
		d.Next[at] = make(list, r.Intn(6))
	case 2:
		d.Next = d.Next[:at]
	case 3:
		d.Next = append(d.Next, slices.Clone(row))
	default:
		row[r.Intn(len(row))] = r.Intn(12) - 3
	}
	return d
}

func TestErrorsDrawn(t *testing.T) {
	r := rand.New(rand.NewSource(34))
	for range 20000 {
		good := drawnStates(r, 1+r.Intn(6), 1+r.Intn(4), 2)
		d := spoilt(r, copied(good))
		l, e := least.Least(d)
		if !subset.Right(d) {
			if l.Next != nil || l.Final != nil || e != api.ErrArg {
				t.Fatalf("Least(%v): %v, %d", d, l, e)
			}
			holdPairError(t, "spoilt, at the first place", d, good)
			holdPairError(t, "spoilt, at the second place", good, d)
			continue
		}
		if e != api.OK {
			t.Fatalf("Least(%v): error %d", d, e)
		}
		if len(d.Next[0]) != len(good.Next[0]) {
			holdPairError(t, "of other classes", d, good)
			continue
		}
		word, apart := plainApart(d, good)
		holdPair(t, d, good, word, apart)
	}
}

// P13.2

func TestApart(t *testing.T) {
	one, final := toFirst(1, 2), circle(1, 2, all)
	for _, x := range []struct {
		what  string
		a, b  api.Dfa
		word  list
		apart bool
	}{
		{"one state", one, one, nil, false},
		{"one Final state", final, final, nil, false},
		{"they differ at the first one", one, final, nil, true},
		{"they differ at the first one, and behind it", circle(2, 2, func(state int) bool { return state == 0 }), circle(2, 2, func(state int) bool { return state == 1 }), nil, true},
		{"the chapter's, and its least", circle(2, 2, all), final, nil, false},
		{"none Final", circle(3, 2, none), one, nil, false},
		{"a word of one class", chain(2, 2), one, list{0}, true},
		{"a word of the second class", api.Dfa{Next: []list{{0, 1}, {1, 1}}, Final: []bool{false, true}}, one, list{1}, true},
		{"one has all from one class on, the other from two", chain(2, 2), chain(3, 2), list{0}, true},
		{"from two, and from three", chain(3, 2), chain(4, 2), list{0, 0}, true},
		{"two words of one class: the first one", api.Dfa{Next: []list{{1, 2}, {1, 1}, {2, 2}}, Final: []bool{false, true, true}}, one, list{0}, true},
		{"the shorter word, though its class is greater", api.Dfa{Next: []list{{1, 2}, {3, 3}, {3, 3}, {3, 3}}, Final: []bool{false, false, true, true}}, one, list{1}, true},
		{"of two of one length the first one, though met from a greater state", api.Dfa{Next: []list{{2, 1}, {3, 0}, {0, 3}, {3, 3}}, Final: []bool{false, false, false, true}}, one, list{0, 1}, true},
		{"the other has the word", api.Dfa{Next: []list{{0, 1}, {1, 1}}, Final: []bool{true, false}}, final, list{1}, true},
		{"numbers differ, words don't", api.Dfa{Next: []list{{1, 2}, {1, 1}, {2, 2}}, Final: []bool{true, true, false}}, api.Dfa{Next: []list{{2, 1}, {1, 1}, {2, 2}}, Final: []bool{true, false, true}}, nil, false},
		{"they differ at what is not led to alone", api.Dfa{Next: []list{{0, 0}, {0, 1}}, Final: []bool{true, false}}, api.Dfa{Next: []list{{0, 0}, {1, 1}}, Final: []bool{true, true}}, nil, false},
		{"even, and by four", circle(2, 2, func(state int) bool { return state == 0 }), circle(4, 2, func(state int) bool { return state == 0 }), list{0, 0}, true},
		{"by two, and by three", circle(2, 2, func(state int) bool { return state == 1 }), circle(3, 2, func(state int) bool { return state == 1 }), list{0, 0, 0}, true},
		{"a word back and forth", api.Dfa{Next: []list{{1, 0}, {1, 2}, {3, 0}, {3, 3}}, Final: []bool{false, false, false, true}}, one, list{0, 1, 0}, true},
	} {
		t.Run(x.what, func(t *testing.T) {
			if word, apart := plainApart(x.a, x.b); apart != x.apart || !slices.Equal(word, x.word) {
				t.Errorf("plainly %v, %v", word, apart)
			}
			holdPair(t, x.a, x.b, x.word, x.apart)
		})
	}
}

// All pairs of at most two and at most three states: all words of four classes are tried, since shorter ones tell them apart, if any do.
func TestApartAllSmall(t *testing.T) {
	short := words(2, 4)
	few := append(allStates(1, 2), allStates(2, 2)...)
	for _, b := range append(slices.Clone(few), allStates(3, 2)...) {
		hers := taken(short, b)
		for _, a := range few {
			if taken(short, a) == hers {
				holdPair(t, a, b, nil, false)
				continue
			}
			word, apart := firstOf(short, a, b)
			holdPair(t, a, b, word, apart)
		}
	}
}

func TestApartAllOfOneClass(t *testing.T) {
	long := words(1, 9)
	var l []api.Dfa
	for states := 1; states <= 3; states++ {
		l = append(l, allStates(states, 1)...)
	}
	for _, b := range append(slices.Clone(l), allStates(4, 1)...) {
		for _, a := range l {
			word, apart := firstOf(long, a, b)
			holdPair(t, a, b, word, apart)
		}
	}
}

func TestApartDrawn(t *testing.T) {
	r := rand.New(rand.NewSource(35))
	for range 5000 {
		classes, finals := 1+r.Intn(4), 1+r.Intn(12)
		a, b := drawnStates(r, 1+r.Intn(12), classes, finals), drawnStates(r, 1+r.Intn(12), classes, finals)
		word, apart := plainApart(a, b)
		holdPair(t, a, b, word, apart)
		// Those that are almost alike: of one another's words but for one state, or one step.
		c := blown(r, a, len(a.Next)+r.Intn(30))
		holdPair(t, a, c, nil, false)
		state := r.Intn(len(c.Next))
		if r.Intn(2) == 0 {
			c.Final[state] = !c.Final[state]
		} else {
			c.Next[state][r.Intn(classes)] = r.Intn(len(c.Next))
		}
		word, apart = plainApart(a, c)
		holdPair(t, a, c, word, apart)
	}
}

func TestApartOfManyClasses(t *testing.T) {
	r := rand.New(rand.NewSource(36))
	for range 100 {
		a := drawnStates(r, 1+r.Intn(60), []int{1, 60, 199, 200}[r.Intn(4)], 5)
		b := blown(r, a, len(a.Next)+r.Intn(200))
		holdPair(t, a, b, nil, false)
		state := r.Intn(len(b.Next))
		b.Final[state] = !b.Final[state]
		word, apart := plainApart(a, b)
		holdPair(t, a, b, word, apart)
	}
}

// advancing are states of 200 classes, of which those from one on lead to the next state, and the others stay; the last state leads to another one.
func advancing(states, from, back int, final func(state int) bool) api.Dfa {
	return stepping(states, 200, func(state, class int) int {
		if class < from {
			return state
		}
		if state == states-1 {
			return back
		}
		return state + 1
	}, final)
}

func TestApartOfMostStates(t *testing.T) {
	r := rand.New(rand.NewSource(37))
	for _, from := range []int{0, 77, 199} {
		end := func(state int) bool { return state == 4999 }
		long := advancing(5000, from, 4999, end)
		far := slices.Repeat(list{from}, 4999)
		holdApart(t, long, advancing(5000, from, 4999, none), far)
		holdApart(t, shuffled(r, long), toFirst(1, 200), far)
		holdApart(t, long, advancing(4999, from, 4998, func(state int) bool { return state == 4998 }), far[:4998])
		holdAlike(t, long, shuffled(r, long))
		// Round, they differ where the shorter one begins anew.
		begin := func(state int) bool { return state == 0 }
		holdApart(t, advancing(5000, from, 0, begin), advancing(4999, from, 0, begin), far)
	}
	d := drawnStates(r, 2500, 200, 2)
	holdAlike(t, d, blown(r, d, 5000))
	holdApart(t, toFirst(5000, 200), circle(5000, 200, all), nil)
}

// Words of circles whose lengths have no divisor in common may agree up to as many classes as there are states, less two.
func TestApartByTheLongestWord(t *testing.T) {
	for _, x := range [][2]int{{2, 3}, {3, 5}, {4, 7}, {89, 144}, {999, 1000}, {4999, 5000}} {
		p, q := x[0], x[1]
		mark := make([]bool, p+q-2) // what steps of p and of q lead to from the place 0: not all, but as far as they go the same by both
		for todo := []int{0}; len(todo) > 0; {
			i := todo[0]
			todo, mark[i] = todo[1:], true
			for _, next := range []int{i - q, i - p, i + p, i + q} {
				if next >= 0 && next < len(mark) && !mark[next] {
					todo = append(todo, next)
				}
			}
		}
		final := func(state int) bool { return mark[state] }
		for _, classes := range []int{1, 3} {
			a, b := circle(p, classes, final), circle(q, classes, final)
			holdApart(t, a, b, make(list, p+q-2))
		}
	}
}

// Pairs that are alike are not gone through one by one: there would be 25 million of them.
func TestAlikeOfManyPairs(t *testing.T) {
	for _, final := range []func(int) bool{all, none} {
		holdAlike(t, circle(5000, 200, final), circle(4999, 200, final))
		holdAlike(t, circle(4999, 200, final), circle(5000, 200, final))
	}
	r := rand.New(rand.NewSource(38))
	d := least1(t, drawnStates(r, 3, 200, 2))
	a, b := blown(r, d, 5000), blown(r, d, 4999)
	holdAlike(t, a, b)
	holdPair(t, a, d, nil, false)
}

// P13.3

// Of all small states, none of the same words are fewer than the least.
func TestNoneAreFewer(t *testing.T) {
	short := words(2, 4) // two of at most three states each that differ do so by such a word
	fewest := map[uint64]api.Dfa{}
	for states := 1; states <= 3; states++ {
		for _, d := range allStates(states, 2) {
			l, bits := least1(t, d), taken(short, d)
			if _, there := fewest[bits]; !there {
				fewest[bits] = l
				if len(l.Next) != states {
					t.Fatalf("%v: %v are fewer, but not among all that are fewer", d, l)
				}
			}
			if !same(l, fewest[bits]) {
				t.Fatalf("%v: Least %v, and %v of the same words", d, l, fewest[bits])
			}
		}
	}
}

// The states of all small expressions: they have the words of the expression, by all short words; two have the same words just if their least are the same.
func TestLeastOfAllSmallExpressions(t *testing.T) {
	masks := []uint64{1, 2, 3}
	short := words(3, 4)
	for _, n := range upTo(4) {
		for _, free := range []bool{false, true} {
			d := built(t, n, masks, free)
			l := plainLeast(d)
			holdLeast(t, d, l)
			for _, w := range short {
				holdWord(t, n, least1(t, d), masks, free, w)
			}
		}
	}
}

// holdWord holds that states have a word just if it is one of the expression's, or, if free, ends with one.
func holdWord(t *testing.T, n api.Node, d api.Dfa, masks []uint64, free bool, word list) {
	t.Helper()
	signs := make([]uint64, len(word))
	for i, class := range word {
		signs[i] = masks[class]
	}
	want := match.Whole(n, signs)
	if free {
		want = match.Suffix(n, signs)
	}
	if state, e := subset.Run(d, 0, word); e != api.OK || d.Final[state] != want {
		t.Fatalf("%v, %v: %v leads to %d, error %d", n, free, word, state, e)
	}
}

func TestSameWordsSameLeast(t *testing.T) {
	short := words(2, 5) // 63 words
	known := map[string]uint64{}
	words := map[uint64]string{}
	for _, n := range upTo(5) {
		for _, free := range []bool{false, true} {
			l := least1(t, built(t, n, []uint64{1, 2}, free))
			name, bits := text(l), taken(short, l)
			if had, there := known[name]; there && had != bits {
				t.Fatalf("%v, %v: the same states, other words", n, free)
			}
			if had, there := words[bits]; there && had != name {
				t.Fatalf("%v, %v: the same words, other states: %s and %s", n, free, had, name)
			}
			known[name], words[bits] = bits, name
		}
	}
}

func TestPairsOfAllSmallerExpressions(t *testing.T) {
	short := words(3, 4)
	var l, lesser []api.Dfa
	for _, n := range upTo(3) {
		for _, free := range []bool{false, true} {
			d := built(t, n, []uint64{1, 2, 3}, free)
			l, lesser = append(l, d), append(lesser, least1(t, d))
		}
	}
	for i, a := range l {
		for j, b := range l {
			word, apart := firstOf(short, a, b)
			holdPair(t, a, b, word, apart)
			if same(lesser[i], lesser[j]) == apart {
				t.Fatalf("%v, %v: apart: %v; least %v, %v", a, b, apart, lesser[i], lesser[j])
			}
		}
	}
}

// Expressions of the same words, by other ways.
func TestLawsOfExpressions(t *testing.T) {
	masks := []uint64{1, 2, 3, 4, 0}
	for _, n := range append(upTo(3), cat(set(0), plus(alt(set(1), cat(set(2), set(0)))), opt(set(2)))) {
		for _, x := range [][2]api.Node{
			{plus(n), cat(n, star(n))},
			{plus(n), cat(star(n), n)},
			{opt(n), alt(n, cat())},
			{star(star(n)), star(n)},
			{star(plus(opt(n))), star(n)},
			{alt(n, n), n},
			{cat(n, cat()), n},
			{star(alt(n, set(2))), cat(star(n), star(cat(set(2), star(n))))},
			{match.Turn(match.Turn(n)), n},
		} {
			for _, free := range []bool{false, true} {
				a, b := built(t, x[0], masks, free), built(t, x[1], masks, free)
				holdAlike(t, a, b)
				if !same(least1(t, a), least1(t, b)) {
					t.Fatalf("%v and %v: other states", x[0], x[1])
				}
			}
		}
	}
}

// A great expression: a 0 so far ahead of the end of a word needs twice as many states for each sign between.
func TestLeastOfGreatExpressions(t *testing.T) {
	either := alt(set(0), set(1))
	for _, far := range []int{0, 1, 5, 10} {
		d := built(t, cat(star(either), set(0), cat(many(either, far)...)), []uint64{1, 2}, false)
		if count := len(least1(t, d).Next); count != 2<<far {
			t.Errorf("%d: %d states", far, count)
		}
		free := built(t, cat(set(0), cat(many(either, far)...)), []uint64{1, 2}, true)
		holdAlike(t, d, free)
		holdLeast(t, free, least1(t, d))
		holdLeast(t, d, leastByRounds(d))
	}
	opts := built(t, cat(many(opt(set(0)), 300)...), []uint64{1, 2}, false)
	holdLeast(t, opts, leastByRounds(opts))
	if count := len(least1(t, opts).Next); count != 302 {
		t.Errorf("%d states", count)
	}
}

// R3, R4

func TestStaysAsItIs(t *testing.T) {
	r := rand.New(rand.NewSource(39))
	for range 1000 {
		classes := 1 + r.Intn(4)
		a, b := drawnStates(r, 1+r.Intn(9), classes, 2), drawnStates(r, 1+r.Intn(9), classes, 2)
		x, y := copied(a), copied(b)
		l, _ := least.Least(a)
		is, _ := least.Alike(a, b)
		word, apart, _ := least.Apart(a, b)
		if !same(a, x) || !same(b, y) {
			t.Fatalf("%v, %v are %v, %v now", x, y, a, b)
		}
		again, _ := least.Least(a)
		is2, _ := least.Alike(a, b)
		word2, apart2, _ := least.Apart(a, b)
		if !same(l, again) || is != is2 || apart != apart2 || !slices.Equal(word, word2) {
			t.Fatalf("%v, %v: not the same again", a, b)
		}
	}
}

// spoil changes all numbers of a list, and what room there is behind them.
func spoil(l list) {
	l = l[:cap(l)]
	for i := range l {
		l[i] = -77
	}
}

func TestLeastIsOnesOwn(t *testing.T) {
	r := rand.New(rand.NewSource(40))
	for _, d := range []api.Dfa{toFirst(1, 1), toFirst(3, 2), chain(5, 3), circle(6, 2, func(state int) bool { return state%3 == 0 }), drawnStates(r, 40, 5, 3)} {
		was, want := copied(d), copied(least1(t, d))
		for i := range want.Next {
			l := least1(t, d)
			spoil(l.Next[i])
			l.Final[i] = !l.Final[i]
			for j, row := range l.Next {
				if j != i && (!slices.Equal(row, want.Next[j]) || l.Final[j] != want.Final[j]) {
					t.Errorf("the row %d is the same memory as %d", j, i)
				}
			}
			if !same(d, was) {
				t.Fatalf("the row %d is the same memory as what was handed in", i)
			}
			if !same(least1(t, d), want) {
				t.Fatalf("not the same again")
			}
		}
		l := least1(t, d)
		for i, row := range d.Next {
			spoil(row)
			d.Final[i] = !d.Final[i]
		}
		if !same(l, want) {
			t.Errorf("%v: changed with what was handed in", brief(l))
		}
	}
}

func TestWordIsOnesOwn(t *testing.T) {
	a, b := chain(9, 2), toFirst(1, 2)
	w, _, _ := least.Apart(a, b)
	spoil(w)
	holdApart(t, a, b, make(list, 8))
}

// FuzzLeast reads states off bytes.
func FuzzLeast(f *testing.F) {
	f.Add(1, []byte{3, 2}, []byte{2, 2, 2})
	f.Add(2, []byte{1, 5, 0, 3, 2, 2}, []byte{0, 1, 1, 1, 4, 0})
	f.Add(3, []byte{0, 1, 2, 3, 4, 5, 6, 7, 8}, []byte{8, 7, 6})
	f.Fuzz(func(t *testing.T, classes int, first, second []byte) {
		if classes < 1 || classes > 8 || len(first) > 60 || len(second) > 60 {
			return
		}
		a, b := read(first, classes), read(second, classes)
		holdLeast(t, a, plainLeast(a))
		word, apart := plainApart(a, b)
		holdPair(t, a, b, word, apart)
		if same(least1(t, a), least1(t, b)) == apart {
			t.Fatalf("%v, %v: apart: %v", a, b, apart)
		}
	})
}

// read takes as many states off bytes as these have whole rows of, and one more.
func read(b []byte, classes int) api.Dfa {
	states := len(b)/classes + 1
	return stepping(states, classes, func(state, class int) int {
		if i := state*classes + class; i < len(b) {
			return int(b[i]) / 2 % states
		}
		return 0
	}, func(state int) bool { return state*classes < len(b) && b[state*classes]%2 == 1 })
}
