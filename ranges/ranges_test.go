package ranges_test

import (
	"math"
	"math/rand"
	"slices"
	"testing"

	"scansion/api"
	"scansion/ranges"
)

const top = api.MaxRune

// list is ranges, by Low and High in turn.
func list(n ...int) []api.Range {
	var l []api.Range
	for i := 0; i+1 < len(n); i += 2 {
		l = append(l, api.Range{Low: n[i], High: n[i+1]})
	}
	return l
}

// cells part all numbers: single ones at both ends, and those between. A set that parts no cell is a number, whose bits are cells.
func cells() []api.Range {
	return list(0, 0, 1, 1, 2, 2, 3, 3, 4, top-4, top-3, top-3, top-2, top-2, top-1, top-1, top, top)
}

// ofCells is the set whose cells are the bits of mask.
func ofCells(mask int) []api.Range {
	var set []api.Range
	ahead := false
	for i, c := range cells() {
		in := mask>>i&1 == 1
		switch {
		case in && ahead:
			set[len(set)-1].High = c.High
		case in:
			set = append(set, c)
		}
		ahead = in
	}
	return set
}

func allCells() (sets [][]api.Range) {
	for mask := range 1 << len(cells()) {
		sets = append(sets, ofCells(mask))
	}
	return sets
}

// P2.1

func TestMake(t *testing.T) {
	for _, c := range []struct {
		what    string
		l, want []api.Range
	}{
		{"the chapter's", list(5, 7, 1, 3, 4, 4), list(1, 7)},
		{"none", nil, nil},
		{"one", list(3, 9), list(3, 9)},
		{"one number", list(3, 3), list(3, 3)},
		{"twice", list(3, 9, 3, 9), list(3, 9)},
		{"all", list(0, top), list(0, top)},
		{"the ends", list(top, top, 0, 0), list(0, 0, top, top)},
		{"next to the ends", list(top-1, top, 0, 1), list(0, 1, top-1, top)},
		{"touch", list(0, 4, 5, 9), list(0, 9)},
		{"touch, other order", list(5, 9, 0, 4), list(0, 9)},
		{"a number between", list(0, 4, 6, 9), list(0, 4, 6, 9)},
		{"a number between, other order", list(6, 9, 0, 4), list(0, 4, 6, 9)},
		{"overlap", list(0, 5, 5, 9), list(0, 9)},
		{"overlap, other order", list(3, 9, 0, 5), list(0, 9)},
		{"in one another", list(0, 9, 3, 5, 11, 12), list(0, 9, 11, 12)},
		{"in one another, other order", list(3, 5, 0, 9), list(0, 9)},
		{"the outer one reaches the next", list(0, 9, 1, 2, 4, 5, 10, 10), list(0, 10)},
		{"one Low, several High", list(2, 8, 2, 3, 2, 5, 9, 9), list(2, 9)},
		{"surrogates are numbers", list(0xD800, 0xDFFF, 0xD7FF, 0xD7FF), list(0xD7FF, 0xDFFF)},
		{"bridge", list(0, 1, 4, 5, 8, 9, 2, 3, 6, 7), list(0, 9)},
	} {
		handed := slices.Clone(c.l)
		got, e := ranges.Make(c.l)
		if e != api.OK || !slices.Equal(got, c.want) {
			t.Errorf("%s: Make(%v): %v, %d; want %v", c.what, c.l, got, e, c.want)
		}
		if !slices.Equal(c.l, handed) {
			t.Errorf("%s: Make changed what it was handed: %v, was %v", c.what, c.l, handed)
		}
	}
}

func TestMakeWrong(t *testing.T) {
	for _, wrong := range [][]api.Range{
		list(-1, 5), list(-1, -1), list(-5, -3), list(math.MinInt, 0), list(math.MinInt, math.MaxInt),
		list(0, top+1), list(top, top+1), list(top+1, top+1), list(top+1, top+9), list(0, math.MaxInt), list(math.MaxInt, math.MaxInt),
		list(2, 1), list(top, 0), list(1, 0), list(top, top-1), list(0, -1), list(top+1, top), list(math.MaxInt, math.MinInt), list(0, math.MinInt),
	} {
		for _, l := range [][]api.Range{
			wrong,
			append(slices.Clone(wrong), list(0, top)...),
			append(list(0, top), wrong...),
			append(append(list(1, 3, 7, 9), wrong...), list(4, 6)...),
		} {
			handed := slices.Clone(l)
			if got, e := ranges.Make(l); e != api.ErrArg || len(got) != 0 {
				t.Errorf("Make(%v): %v, %d; want ErrArg alone", l, got, e)
			}
			if !slices.Equal(l, handed) {
				t.Errorf("Make changed what it was handed: %v, was %v", l, handed)
			}
		}
	}
}

// TestMakeOrders makes each set of cells from its cells in several orders, some of them told twice.
func TestMakeOrders(t *testing.T) {
	chance := rand.New(rand.NewSource(1))
	for mask := range 1 << len(cells()) {
		var l []api.Range
		for i, c := range cells() {
			if mask>>i&1 == 1 {
				l = append(l, c)
			}
		}
		want := ofCells(mask)
		for range 8 {
			if got, e := ranges.Make(l); e != api.OK || !slices.Equal(got, want) {
				t.Fatalf("Make(%v): %v, %d; want %v", l, got, e, want)
			}
			chance.Shuffle(len(l), func(i, j int) { l[i], l[j] = l[j], l[i] })
			if len(l) > 0 {
				l = append(l, l[chance.Intn(len(l))])
			}
		}
	}
}

// TestMakeAny holds ranges at any places against a list of all their numbers.
func TestMakeAny(t *testing.T) {
	const most = 60
	chance := rand.New(rand.NewSource(2))
	for range 20000 {
		var in [most + 2]bool
		var l []api.Range
		for range chance.Intn(8) {
			low := chance.Intn(most)
			high := low + chance.Intn(min(10, most-low))
			l = append(l, api.Range{Low: low, High: high})
			for n := low; n <= high; n++ {
				in[n] = true
			}
		}
		var want []api.Range
		for n := range most + 1 {
			switch {
			case in[n] && n > 0 && in[n-1]:
				want[len(want)-1].High = n
			case in[n]:
				want = append(want, api.Range{Low: n, High: n})
			}
		}
		if got, e := ranges.Make(l); e != api.OK || !slices.Equal(got, want) {
			t.Fatalf("Make(%v): %v, %d; want %v", l, got, e, want)
		}
	}
}

// P2.2

func TestTwoSets(t *testing.T) {
	for _, c := range []struct {
		a, b, or, and, less []api.Range
	}{
		{nil, nil, nil, nil, nil},
		{list(1, 7), nil, list(1, 7), nil, list(1, 7)},
		{nil, list(1, 7), list(1, 7), nil, nil},
		{list(1, 7), list(1, 7), list(1, 7), list(1, 7), nil},
		{list(1, 7), list(6, 9), list(1, 9), list(6, 7), list(1, 5)},
		{list(6, 9), list(1, 7), list(1, 9), list(6, 7), list(8, 9)},
		{list(1, 3), list(4, 7), list(1, 7), nil, list(1, 3)},
		{list(1, 3), list(5, 7), list(1, 3, 5, 7), nil, list(1, 3)},
		{list(1, 9), list(3, 5), list(1, 9), list(3, 5), list(1, 2, 6, 9)},
		{list(3, 5), list(1, 9), list(1, 9), list(3, 5), nil},
		{list(0, top), list(0, 0, top, top), list(0, top), list(0, 0, top, top), list(1, top-1)},
		{list(0, 0, top, top), list(1, top-1), list(0, top), nil, list(0, 0, top, top)},
		{list(1, 2, 5, 6, 9, 10), list(3, 4, 7, 8), list(1, 10), nil, list(1, 2, 5, 6, 9, 10)},
		{list(1, 20), list(2, 3, 6, 7, 12, 12), list(1, 20), list(2, 3, 6, 7, 12, 12), list(1, 1, 4, 5, 8, 11, 13, 20)},
	} {
		if got := ranges.Or(c.a, c.b); !slices.Equal(got, c.or) {
			t.Errorf("Or(%v, %v): %v; want %v", c.a, c.b, got, c.or)
		}
		if got := ranges.And(c.a, c.b); !slices.Equal(got, c.and) {
			t.Errorf("And(%v, %v): %v; want %v", c.a, c.b, got, c.and)
		}
		if got := ranges.Less(c.a, c.b); !slices.Equal(got, c.less) {
			t.Errorf("Less(%v, %v): %v; want %v", c.a, c.b, got, c.less)
		}
	}
}

func TestNot(t *testing.T) {
	for _, c := range []struct{ a, want []api.Range }{
		{nil, list(0, top)},
		{[]api.Range{}, list(0, top)},
		{list(0, top), nil},
		{list(1, 7), list(0, 0, 8, top)},
		{list(0, 0), list(1, top)},
		{list(top, top), list(0, top-1)},
		{list(0, 0, top, top), list(1, top-1)},
		{list(1, top-1), list(0, 0, top, top)},
		{list(0, 4, 6, 9), list(5, 5, 10, top)},
		{list(0xD800, 0xDFFF), list(0, 0xD7FF, 0xE000, top)},
	} {
		if got := ranges.Not(c.a); !slices.Equal(got, c.want) {
			t.Errorf("Not(%v): %v; want %v", c.a, got, c.want)
		}
	}
}

// TestAllPairs holds every two sets of cells against what their bits say.
func TestAllPairs(t *testing.T) {
	sets := allCells()
	every := len(sets) - 1
	for x, a := range sets {
		if got := ranges.Not(a); !slices.Equal(got, sets[every&^x]) {
			t.Fatalf("Not(%v): %v", a, got)
		}
		for y, b := range sets {
			if got := ranges.Or(a, b); !slices.Equal(got, sets[x|y]) {
				t.Fatalf("Or(%v, %v): %v", a, b, got)
			}
			if got := ranges.And(a, b); !slices.Equal(got, sets[x&y]) {
				t.Fatalf("And(%v, %v): %v", a, b, got)
			}
			if got := ranges.Less(a, b); !slices.Equal(got, sets[x&^y]) {
				t.Fatalf("Less(%v, %v): %v", a, b, got)
			}
		}
	}
	for x, a := range sets {
		if !slices.Equal(a, ofCells(x)) {
			t.Fatalf("a set that was handed in was changed: %v; was %v", a, ofCells(x))
		}
	}
}

// TestOwnMemory writes over what was told, and looks whether what was handed in stays as it was (R3).
func TestOwnMemory(t *testing.T) {
	for _, tell := range []func(a []api.Range) []api.Range{
		func(a []api.Range) []api.Range { l, _ := ranges.Make(a); return l },
		func(a []api.Range) []api.Range { return ranges.Or(a, nil) },
		func(a []api.Range) []api.Range { return ranges.Or(nil, a) },
		func(a []api.Range) []api.Range { return ranges.Or(a, a) },
		func(a []api.Range) []api.Range { return ranges.And(a, a) },
		func(a []api.Range) []api.Range { return ranges.And(a, list(0, top)) },
		func(a []api.Range) []api.Range { return ranges.Less(a, nil) },
	} {
		room := list(1, 3, 7, 9, 0, 0)
		a := room[:2]
		l := tell(a)
		if !slices.Equal(l, list(1, 3, 7, 9)) {
			t.Errorf("told %v", l)
		}
		l = append(l, list(11, 12)...)
		for i := range l {
			l[i] = api.Range{Low: -1, High: -1}
		}
		if !slices.Equal(room, list(1, 3, 7, 9, 0, 0)) {
			t.Errorf("what was handed in is shared: %v", room)
		}
	}
}

// P2.3

func TestHas(t *testing.T) {
	some := list(0, 0, 2, 3, 5, 9, 0xD800, 0xD800, top-1, top)
	for r, want := range map[int]bool{
		math.MinInt: false, -top: false, -1: false,
		0: true, 1: false, 2: true, 3: true, 4: false, 5: true, 7: true, 9: true, 10: false,
		0xD7FF: false, 0xD800: true, 0xD801: false,
		top - 2: false, top - 1: true, top: true, top + 1: false, math.MaxInt: false,
	} {
		if got := ranges.Has(some, r); got != want {
			t.Errorf("Has(%v, %d): %v", some, r, got)
		}
		if ranges.Has(nil, r) {
			t.Errorf("Has(nil, %d)", r)
		}
		if got := ranges.Has(list(0, top), r); got != (0 <= r && r <= top) {
			t.Errorf("Has of all, %d: %v", r, got)
		}
	}
}

func TestCount(t *testing.T) {
	for _, c := range []struct {
		a    []api.Range
		want int
	}{
		{nil, 0}, {list(0, 0), 1}, {list(top, top), 1}, {list(1, 7), 7}, {list(0, top), top + 1},
		{list(0, 0, top, top), 2}, {list(0, 0, 2, 3, 5, 9), 8},
	} {
		if got := ranges.Count(c.a); got != c.want {
			t.Errorf("Count(%v): %d; want %d", c.a, got, c.want)
		}
	}
}

func TestNth(t *testing.T) {
	some := list(0, 0, 2, 3, 5, 9, top, top)
	want := []int{0, 2, 3, 5, 6, 7, 8, 9, top}
	for n, r := range want {
		if got, e := ranges.Nth(some, n); e != api.OK || got != r {
			t.Errorf("Nth(%v, %d): %d, %d; want %d", some, n, got, e, r)
		}
	}
	for _, n := range []int{-1, -2, -top, math.MinInt, len(want), len(want) + 1, top, math.MaxInt} {
		if got, e := ranges.Nth(some, n); e != api.ErrNone || got != 0 {
			t.Errorf("Nth(%v, %d): %d, %d; want ErrNone alone", some, n, got, e)
		}
	}
	for _, n := range []int{-1, 0, 1, math.MinInt, math.MaxInt} {
		if got, e := ranges.Nth(nil, n); e != api.ErrNone || got != 0 {
			t.Errorf("Nth(nil, %d): %d, %d; want ErrNone alone", n, got, e)
		}
	}
	for _, n := range []int{0, 1, 0xD800, top - 1, top} {
		if got, e := ranges.Nth(list(0, top), n); e != api.OK || got != n {
			t.Errorf("Nth of all, %d: %d, %d", n, got, e)
		}
	}
	if got, e := ranges.Nth(list(0, top), top+1); e != api.ErrNone || got != 0 {
		t.Errorf("Nth of all, behind the last: %d, %d", got, e)
	}
	if got, e := ranges.Nth(list(5, 9), -5); e != api.ErrNone || got != 0 {
		t.Errorf("Nth ahead of the first: %d, %d", got, e)
	}
}

// TestNumbers goes through all numbers of several sets: those that Has tells are Nth's, in their order, and as many as Count tells.
func TestNumbers(t *testing.T) {
	for _, a := range [][]api.Range{nil, list(0, 0), list(1, 7, 9, 9, 300, 512), list(0, 3, 0xFF0, 0x1003, top-6, top), list(top, top)} {
		n := 0
		for r := -2; r <= top+2; r++ {
			inside := slices.ContainsFunc(a, func(x api.Range) bool { return x.Low <= r && r <= x.High })
			if got := ranges.Has(a, r); got != inside {
				t.Fatalf("Has(%v, %d): %v", a, r, got)
			}
			if !inside {
				continue
			}
			if got, e := ranges.Nth(a, n); e != api.OK || got != r {
				t.Fatalf("Nth(%v, %d): %d, %d; want %d", a, n, got, e, r)
			}
			n++
		}
		if got := ranges.Count(a); got != n {
			t.Errorf("Count(%v): %d; want %d", a, got, n)
		}
		if got, e := ranges.Nth(a, n); e != api.ErrNone || got != 0 {
			t.Errorf("Nth(%v, %d): %d, %d; want ErrNone alone", a, n, got, e)
		}
	}
}

// P2.4

func checkLaws(t *testing.T, a, b []api.Range) {
	t.Helper()
	if x, y := ranges.Or(a, b), ranges.Or(b, a); !slices.Equal(x, y) {
		t.Fatalf("Or hangs on the order: %v, %v: %v, %v", a, b, x, y)
	}
	if x, y := ranges.And(a, b), ranges.And(b, a); !slices.Equal(x, y) {
		t.Fatalf("And hangs on the order: %v, %v: %v, %v", a, b, x, y)
	}
	if x := ranges.Not(ranges.Not(a)); !slices.Equal(x, a) {
		t.Fatalf("Not of Not of %v: %v", a, x)
	}
	if x, y := ranges.Less(a, b), ranges.And(a, ranges.Not(b)); !slices.Equal(x, y) {
		t.Fatalf("Less of %v, %v: %v; And with Not: %v", a, b, x, y)
	}
	if x, y := ranges.Not(ranges.Or(a, b)), ranges.And(ranges.Not(a), ranges.Not(b)); !slices.Equal(x, y) {
		t.Fatalf("Not of Or of %v, %v: %v; And of the Nots: %v", a, b, x, y)
	}
}

func TestLaws(t *testing.T) {
	sets := allCells()
	for i, a := range sets {
		for j := i % 7; j < len(sets); j += 7 {
			checkLaws(t, a, sets[j])
		}
	}
}

func anySet(chance *rand.Rand) []api.Range {
	var l []api.Range
	for range chance.Intn(20) {
		low := chance.Intn(top + 1)
		l = append(l, api.Range{Low: low, High: low + chance.Intn(min(top-low+1, 1+chance.Intn(top)))})
	}
	set, _ := ranges.Make(l)
	return set
}

func TestLawsOfAnySets(t *testing.T) {
	chance := rand.New(rand.NewSource(3))
	for range 5000 {
		a, b := anySet(chance), anySet(chance)
		checkLaws(t, a, b)
		if x := ranges.Count(ranges.Or(a, b)) + ranges.Count(ranges.And(a, b)); x != ranges.Count(a)+ranges.Count(b) {
			t.Fatalf("Or and And of %v, %v have %d numbers", a, b, x)
		}
	}
}

// TestNoSets calls with lists that are no sets: nothing is promised of what they tell, but that they end without a panic (P1 of DOC.md).
func TestNoSets(t *testing.T) {
	odd := [][]api.Range{
		nil, list(2, 1), list(9, 12, 3, 5), list(1, 5, 4, 9), list(1, 5, 6, 9), list(0, top, 0, top),
		list(-5, -1), list(-1, 0), list(top, top+1), list(top+1, top+5), list(top, -1), list(5, math.MinInt, 4, 4),
		list(math.MinInt, math.MaxInt), list(math.MaxInt, math.MinInt), list(math.MaxInt, math.MaxInt), list(math.MinInt, math.MinInt),
		list(0, math.MaxInt, 3, 4), list(math.MinInt, 0, math.MinInt, 3),
	}
	numbers := []int{math.MinInt, -1, 0, 1, 4, top, top + 1, math.MaxInt}
	for _, a := range odd {
		ranges.Make(a)
		ranges.Not(a)
		ranges.Count(a)
		for _, n := range numbers {
			ranges.Has(a, n)
			ranges.Nth(a, n)
		}
		for _, b := range odd {
			ranges.Or(a, b)
			ranges.And(a, b)
			ranges.Less(a, b)
		}
	}
}
