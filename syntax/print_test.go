package syntax_test

import (
	"math"
	"math/rand"
	"slices"
	"strings"
	"testing"

	"scansion/api"
	"scansion/lex"
	"scansion/ranges"
	"scansion/syntax"
)

// What the tests hold Right and Print against: the chapter's words, condition by condition; the depth is counted in the text.

// written is an expression's text by the words of P8.2, whether it may be or not.
func written(sets [][]api.Range, n api.Node) string {
	var s strings.Builder
	if n.Kind == api.NodeSet {
		s.WriteString(lex.Set(sets[n.Set]))
	}
	for i, k := range n.Kids {
		x := written(sets, k)
		isAlt, isCat := k.Kind == api.NodeAlt, k.Kind == api.NodeCat
		if n.Kind == api.NodeAlt && isAlt || n.Kind != api.NodeAlt && (isAlt || isCat) {
			x = "(" + x + ")"
		}
		if n.Kind == api.NodeAlt && i > 0 {
			x = "|" + x
		}
		s.WriteString(x)
	}
	return s.String() + map[int]string{api.NodeStar: "*", api.NodePlus: "+", api.NodeOpt: "?"}[n.Kind]
}

func writtenWhole(p api.Program) string {
	s := ""
	for _, r := range p.Rules {
		s += map[bool]string{true: "break ", false: "keep "}[r.Break] + written(p.Sets, r.Left) + "/" + written(p.Sets, r.Right) + ";\n"
	}
	return s
}

// inside are all expressions that an expression has in it, itself ahead, in the order of its text.
func inside(n api.Node) []api.Node {
	l := []api.Node{n}
	for _, k := range n.Kids {
		l = append(l, inside(k)...)
	}
	return l
}

func hasSign(n api.Node) bool {
	return n.Kind == api.NodeStar || n.Kind == api.NodePlus || n.Kind == api.NodeOpt
}

func brackets(text string) int {
	most, open := 0, 0
	for _, r := range text {
		switch r {
		case '(':
			open++
			most = max(most, open)
		case ')':
			open--
		}
	}
	return most
}

// formed tells of an expression by itself, not of its parts.
func formed(n api.Node, sets int) bool {
	count := len(n.Kids)
	switch n.Kind {
	case api.NodeSet:
		return count == 0 && 0 <= n.Set && n.Set < sets
	case api.NodeCat:
		return n.Set == 0 && count != 1
	case api.NodeAlt:
		return n.Set == 0 && count > 1
	case api.NodeStar, api.NodePlus, api.NodeOpt:
		return n.Set == 0 && count == 1
	}
	return false
}

func expressionMayBe(n api.Node, sets [][]api.Range) bool {
	for _, x := range inside(n) {
		if !formed(x, len(sets)) {
			return false
		}
	}
	for _, x := range inside(n) {
		signs := 0
		for ; hasSign(x); x = x.Kids[0] {
			signs++
		}
		if signs > 3 {
			return false
		}
	}
	return brackets(written(sets, n)) <= 20
}

func mayBe(p api.Program) bool {
	if len(p.Sets) > 60 || len(p.Rules) > 64 {
		return false
	}
	texts := []string{}
	for _, s := range p.Sets {
		made, e := ranges.Make(s)
		if e != api.OK || !slices.Equal(made, s) || slices.Contains(texts, lex.Set(s)) {
			return false
		}
		texts = append(texts, lex.Set(s))
	}
	met := []int{}
	for _, r := range p.Rules {
		for _, side := range []api.Node{r.Left, r.Right} {
			if !expressionMayBe(side, p.Sets) {
				return false
			}
			for _, x := range inside(side) {
				if x.Kind == api.NodeSet && !slices.Contains(met, x.Set) {
					met = append(met, x.Set)
				}
			}
		}
	}
	return len(met) == len(p.Sets) && slices.IsSorted(met)
}

// comesBack is of a program that may be (P8.3).
func comesBack(t *testing.T, p api.Program) {
	t.Helper()
	if !syntax.Right(p) {
		t.Fatalf("Right(%v) is false", p)
	}
	b, e := syntax.Print(p)
	if want := writtenWhole(p); string(b) != want || e != api.OK {
		t.Fatalf("Print(%v): %q, %d; want %q", p, b, e, want)
	}
	if len(b) > 65536 {
		fault(t, string(b), 0, api.ErrFull)
		return
	}
	hold(t, string(b), answer{program: p})
}

func mayNot(t *testing.T, p api.Program) {
	t.Helper()
	if syntax.Right(p) {
		t.Fatalf("Right(%.2000v) is true", p)
	}
	if b, e := syntax.Print(p); len(b) != 0 || e != api.ErrArg {
		t.Fatalf("Print(%.2000v): %q, %d", p, b, e)
	}
}

// judged holds a program against the words, and tells whether it may be.
func judged(t *testing.T, p api.Program) bool {
	t.Helper()
	if mayBe(p) {
		comesBack(t, p)
		return true
	}
	mayNot(t, p)
	return false
}

var (
	a = list('a', 'a')
	b = list('b', 'b')
	c = list('c', 'c')
)

func program(sets [][]api.Range, l ...api.Rule) api.Program {
	return api.Program{Sets: sets, Rules: l}
}

// left is a program of one rule, with that on its left side.
func left(n api.Node, sets ...[]api.Range) api.Program { return program(sets, keep(n, none)) }

// P8.2

func TestPrint(t *testing.T) {
	for _, x := range []struct {
		p    api.Program
		want string
	}{
		{api.Program{}, ""},
		{api.Program{Sets: [][]api.Range{}, Rules: []api.Rule{}}, ""},
		{program(nil, keep(none, none)), "keep /;\n"},
		{program(nil, breaks(none, none)), "break /;\n"},
		{program(nil, breaks(none, none), keep(none, none), breaks(none, none)), "break /;\nkeep /;\nbreak /;\n"},
		{program([][]api.Range{list('a', 'w', 'y', 'z')}, keep(set(0), star(set(0)))), "keep [\\x{61}-\\x{77}\\x{79}-\\x{7A}]/[\\x{61}-\\x{77}\\x{79}-\\x{7A}]*;\n"},
		{program([][]api.Range{nil, list(0, top)}, breaks(set(0), set(1))), "break []/[\\x{0}-\\x{10FFFF}];\n"},
		{program([][]api.Range{a, b}, keep(set(0), none), breaks(none, cat(set(1), set(0)))), "keep [\\x{61}]/;\nbreak /[\\x{62}][\\x{61}];\n"},
	} {
		if b, e := syntax.Print(x.p); string(b) != x.want || e != api.OK {
			t.Errorf("Print(%v): %q, %d; want %q", x.p, b, e, x.want)
		}
		comesBack(t, x.p)
	}
}

func TestBrackets(t *testing.T) {
	x, y := set(0), set(1)
	for _, c := range []struct {
		n    api.Node
		want string
	}{
		{cat(x, y), "ab"},
		{alt(x, y), "a|b"},
		{alt(x, y, none), "a|b|"},
		{alt(none, none, x, y), "||a|b"},
		{cat(none, none, x, y), "()()ab"},
		{cat(x, cat(y, x)), "a(ba)"},
		{cat(cat(x, y), x), "(ab)a"},
		{cat(x, alt(y, x)), "a(b|a)"},
		{cat(alt(x, y), alt(x, none)), "(a|b)(a|)"},
		{alt(cat(x, y), x), "ab|a"},
		{alt(x, cat(y, x)), "a|ba"},
		{alt(alt(x, y), x), "(a|b)|a"},
		{alt(x, alt(y, x)), "a|(b|a)"},
		{alt(x, alt(y, cat(x, x))), "a|(b|aa)"},
		{alt(cat(x, alt(y, x)), none), "a(b|a)|"},
		{alt(cat(x, cat(y, x)), none), "a(ba)|"},
		{cat(star(x), plus(y), opt(x)), "a*b+a?"},
		{alt(star(x), plus(y), opt(x)), "a*|b+|a?"},
		{star(cat(x, y)), "(ab)*"},
		{plus(cat(x, y)), "(ab)+"},
		{opt(cat(x, y)), "(ab)?"},
		{star(alt(x, y)), "(a|b)*"},
		{plus(alt(x, y)), "(a|b)+"},
		{opt(alt(x, y)), "(a|b)?"},
		{cat(star(none), plus(none), opt(none), x, y), "()*()+()?ab"},
		{cat(star(plus(opt(x))), opt(plus(star(y)))), "a?+*b*+?"},
		{star(star(star(cat(x, y)))), "(ab)***"},
		{cat(star(cat(x, star(alt(star(y), none)))), x), "(a(b*|)*)*a"},
	} {
		p := left(c.n, a, b)
		want := strings.NewReplacer("a", "[\\x{61}]", "b", "[\\x{62}]").Replace(c.want)
		if got, e := syntax.Print(p); string(got) != "keep "+want+"/;\n" || e != api.OK {
			t.Errorf("Print(%v): %q, %d; want %q", p, got, e, want)
		}
		comesBack(t, p)
		comesBack(t, program([][]api.Range{a, b}, breaks(c.n, c.n)))
	}
}

func TestKindsThatThereAreNot(t *testing.T) {
	for _, kind := range []int{-1, 6, 7, 256, 1 << 32, math.MinInt, math.MaxInt} {
		for _, n := range []api.Node{{Kind: kind}, {Kind: kind, Kids: []api.Node{none}}, {Kind: kind, Kids: []api.Node{none, none}}} {
			mayNot(t, left(n))
			mayNot(t, program(nil, keep(none, n)))
			mayNot(t, left(star(n)))
			mayNot(t, left(cat(none, n)))
			mayNot(t, left(alt(none, none, n)))
		}
	}
}

func TestPartsTooFewOrTooMany(t *testing.T) {
	kids := func(kind, count int) api.Node {
		n := api.Node{Kind: kind}
		for range count {
			n.Kids = append(n.Kids, set(0))
		}
		return n
	}
	for kind := api.NodeCat; kind <= api.NodeOpt; kind++ {
		for count := range 5 {
			ok := count == 1
			switch kind {
			case api.NodeCat:
				ok = count != 1
			case api.NodeSet:
				ok = count == 0
			case api.NodeAlt:
				ok = count > 1
			}
			n := kids(kind, count)
			for _, p := range []api.Program{
				program([][]api.Range{a}, keep(set(0), n)),
				program([][]api.Range{a}, keep(set(0), none), breaks(n, none)),
				left(cat(set(0), opt(n)), a),
				left(alt(n, set(0)), a),
				left(cat(set(0), n), a),
			} {
				if ok {
					comesBack(t, p)
				} else {
					mayNot(t, p)
				}
			}
		}
	}
}

func TestPlacesOfSets(t *testing.T) {
	for _, place := range []int{-1, 1, 2, 60, math.MinInt, math.MaxInt} {
		mayNot(t, left(set(place), a))
		mayNot(t, left(cat(set(0), set(place)), a))
		mayNot(t, program([][]api.Range{a}, keep(set(0), set(place))))
	}
	mayNot(t, left(set(0)))
	mayNot(t, left(set(-1)))
	for _, place := range []int{-1, 1, 2, math.MinInt, math.MaxInt} {
		for _, n := range []api.Node{none, cat(set(0), set(0)), alt(set(0), set(0)), star(set(0)), plus(set(0)), opt(set(0))} {
			comesBack(t, program([][]api.Range{a, b}, keep(cat(set(0), set(1)), n)))
			n.Set = place
			mayNot(t, program([][]api.Range{a, b}, keep(cat(set(0), set(1)), n)))
			mayNot(t, program([][]api.Range{a, b}, keep(cat(set(0), set(1)), star(n))))
		}
	}
}

func TestSignsAtTheirLimit(t *testing.T) {
	makers := []func(api.Node) api.Node{star, plus, opt}
	for _, inner := range []api.Node{none, alt(none, none), cat(none, none), star(star(star(none))), cat(none, star(star(star(none)))), alt(star(star(star(none))), none)} {
		free := 3
		if hasSign(inner) {
			free = 0
		}
		for i := range 81 {
			n := inner
			for count, rest := 0, i; count < 4; count, rest = count+1, rest/3 {
				if n = makers[rest%3](n); count < free {
					comesBack(t, left(n))
					comesBack(t, left(cat(none, n)))
				} else {
					mayNot(t, left(n))
					mayNot(t, left(cat(none, n)))
					mayNot(t, left(alt(none, star(cat(none, n)))))
					mayNot(t, program(nil, keep(none, n)))
				}
			}
		}
	}
}

// nested puts an expression into others of some kinds, one in the other, so many times.
func nested(n api.Node, times int, outer ...func(api.Node) api.Node) api.Node {
	for i := range times {
		n = outer[i%len(outer)](n)
	}
	return n
}

func TestDepthAtItsLimit(t *testing.T) {
	inCat := func(n api.Node) api.Node { return cat(set(0), n) }
	aheadInCat := func(n api.Node) api.Node { return cat(n, set(0)) }
	inAlt := func(n api.Node) api.Node { return alt(set(0), n) }
	for _, x := range []struct {
		inner api.Node
		outer []func(api.Node) api.Node
		most  int // how many of these may be, one in the other
	}{
		{set(0), []func(api.Node) api.Node{inCat}, 21},
		{set(0), []func(api.Node) api.Node{inAlt}, 21},
		{none, []func(api.Node) api.Node{aheadInCat}, 20},
		{none, []func(api.Node) api.Node{inAlt}, 21},
		{alt(none, none), []func(api.Node) api.Node{inAlt}, 20},
		{set(0), []func(api.Node) api.Node{inCat, inAlt}, 42},
		{set(0), []func(api.Node) api.Node{inAlt, inCat}, 41},
		{set(0), []func(api.Node) api.Node{inCat, star}, 41},
		{set(0), []func(api.Node) api.Node{star, inCat}, 42},
		{set(0), []func(api.Node) api.Node{inAlt, star}, 41},
		{set(0), []func(api.Node) api.Node{inCat, star, plus, opt}, 81},
		{set(0), []func(api.Node) api.Node{inCat, opt, inAlt, plus}, 41},
		{none, []func(api.Node) api.Node{star, inCat}, 40},
		{none, []func(api.Node) api.Node{star, star, opt, inAlt}, 80},
	} {
		for times := range x.most + 8 {
			n := nested(x.inner, times, x.outer...)
			p := program([][]api.Range{a}, keep(set(0), n))
			if judged(t, p) != (times <= x.most) {
				t.Fatalf("%v %d times: Right tells %v", x, times, syntax.Right(p))
			}
			judged(t, program([][]api.Range{a}, breaks(set(0), none), keep(alt(n, none, n), none)))
			judged(t, program([][]api.Range{a}, breaks(set(0), none), keep(cat(set(0), n), none)))
		}
	}
}

// TestExpressionsOfAnyDepth is of more parts in one another than any that may be has, also of a list that is a part of itself (P1).
func TestExpressionsOfAnyDepth(t *testing.T) {
	inCat := func(n api.Node) api.Node { return cat(none, n) }
	inAlt := func(n api.Node) api.Node { return alt(none, n) }
	single := func(n api.Node) api.Node { return cat(n) }
	for _, outer := range [][]func(api.Node) api.Node{{star}, {inCat}, {inAlt}, {single}, {inCat, inAlt}, {star, inCat}, {plus, star, opt, inAlt}} {
		n := nested(none, 1<<16, outer...)
		mayNot(t, left(n))
		mayNot(t, program(nil, keep(none, n)))
	}
	for kind := api.NodeCat; kind <= api.NodeOpt+1; kind++ {
		for count := 1; count < 4; count++ {
			kids := make([]api.Node, count)
			for i := range kids {
				kids[i] = api.Node{Kind: kind, Kids: kids}
			}
			mayNotShort(t, left(kids[0], a))
		}
	}
}

// mayNotShort is mayNot of what can't be told.
func mayNotShort(t *testing.T, p api.Program) {
	t.Helper()
	if syntax.Right(p) {
		t.Fatal("Right is true")
	}
	if b, e := syntax.Print(p); len(b) != 0 || e != api.ErrArg {
		t.Fatalf("Print: %q, %d", b, e)
	}
}

func TestWideExpressions(t *testing.T) {
	kids := make([]api.Node, 1<<18)
	p := left(cat(kids...))
	b, e := syntax.Print(p)
	if want := "keep " + strings.Repeat("()", 1<<18) + "/;\n"; !syntax.Right(p) || string(b) != want || e != api.OK {
		t.Errorf("Print: %d bytes, %d", len(b), e)
	}
	b, e = syntax.Print(left(alt(kids...)))
	if want := "keep " + strings.Repeat("|", 1<<18-1) + "/;\n"; string(b) != want || e != api.OK {
		t.Errorf("Print: %d bytes, %d", len(b), e)
	}
	kids[1<<17].Set = 1
	mayNotShort(t, p)
}

func TestSetsThatAreNone(t *testing.T) {
	for _, s := range [][]api.Range{nil, {}, a, list(0, top), list(0, 0, 2, 2), list(top, top), list(0, 5, 7, 9, 11, top)} {
		comesBack(t, left(set(0), s))
		comesBack(t, left(cat(set(0), set(1)), list(3, 3), s))
	}
	for _, s := range [][]api.Range{
		list(5, 4), list(-1, 0), list(0, top+1), list(top+1, top+1), list(-5, -1),
		list(1, 2, 3, 4), list(1, 2, 2, 4), list(1, 5, 2, 3), list(5, 6, 1, 2), list(1, 2, 1, 2), list(1, 2, 4, 6, 7, 9), list(1, 2, 8, 7),
		list(math.MinInt, math.MaxInt), list(math.MaxInt, math.MinInt), list(0, math.MaxInt), list(math.MinInt, 0),
	} {
		mayNot(t, left(set(0), s))
		mayNot(t, left(cat(set(0), set(1)), list(3, 3), s))
		mayNot(t, left(cat(set(0), set(1)), s, list(3, 3)))
	}
}

func TestSetsThatAreTheSame(t *testing.T) {
	three := cat(set(0), set(1), set(2))
	comesBack(t, left(three, a, b, c))
	comesBack(t, left(three, nil, b, list(0, top)))
	comesBack(t, left(three, a, list('a', 'b'), list('a', 'a', 'c', 'c')))
	for _, sets := range [][][]api.Range{{a, a, b}, {a, b, a}, {b, a, a}, {a, a, a}, {nil, {}, a}, {a, nil, nil}, {list(0, top), a, list(0, top)}} {
		mayNot(t, left(three, sets...))
	}
}

func TestSetsInTheOrderInWhichTheyAreMet(t *testing.T) {
	sets := [][]api.Range{c, a, b}
	for _, l := range [][]api.Rule{
		{keep(cat(set(0), set(1), set(2)), none)},
		{keep(none, cat(set(0), set(1), set(2)))},
		{keep(set(0), cat(set(0), set(1), set(0), set(2), set(1)))},
		{keep(set(0), none), breaks(set(1), set(2))},
		{keep(none, none), keep(none, set(0)), breaks(none, alt(set(0), star(set(1)), cat(set(0), set(2))))},
		{keep(alt(alt(set(0), set(1)), set(2)), set(0))},
		{keep(star(cat(set(0), opt(alt(set(1), none)))), set(0)), keep(set(1), set(2))},
	} {
		comesBack(t, program(sets, l...))
		mayNot(t, program(sets[:2], l...))
		mayNot(t, program(append(slices.Clone(sets), list('d', 'd')), l...))
	}
	for _, l := range [][]api.Rule{
		nil,
		{keep(none, none)},
		{keep(set(0), set(1))},
		{keep(set(1), set(2))},
		{keep(cat(set(0), set(2)), none)},
		{keep(cat(set(1), set(0), set(2)), none)},
		{keep(cat(set(0), set(2), set(1)), none)},
		{keep(set(2), cat(set(0), set(1)))},
		{keep(set(1), cat(set(0), set(2)))},
		{keep(none, set(1)), keep(set(0), set(2))},
		{keep(set(0), set(2)), keep(set(1), none)},
		{keep(star(alt(set(1), set(0))), set(2))},
		{keep(cat(cat(set(0), set(0)), set(2)), cat(set(0), set(1)))},
	} {
		mayNot(t, program(sets, l...))
	}
	mayNot(t, program([][]api.Range{nil}))
	mayNot(t, program([][]api.Range{a}, keep(none, none)))
}

func TestMostSetsAndRulesOfPrograms(t *testing.T) {
	var places []api.Node
	var sets [][]api.Range
	for i := range 62 {
		places = append(places, set(i))
		sets = append(sets, list(2*i, 2*i))
		p := left(cat(append([]api.Node{none}, places...)...), sets...)
		if judged(t, p) != (i < 60) {
			t.Errorf("%d sets: %v", i+1, syntax.Right(p))
		}
	}
	var l []api.Rule
	for i := range 67 {
		p := program(nil, l...)
		if judged(t, p) != (i <= 64) {
			t.Errorf("%d rules: %v", i, syntax.Right(p))
		}
		l = append(l, keep(none, none))
	}
	var many []api.Rule
	for i := range 1 << 16 {
		many = append(many, keep(set(i), none))
	}
	mayNotShort(t, program(make([][]api.Range, 1<<16), many...))
}

// trees hands out all expressions of just so many parts, itself among them, of any kind.
func trees(count int, use func(api.Node)) {
	forests(count-1, func(kids []api.Node) {
		for kind := -1; kind <= 6; kind++ {
			for place := range 2 {
				use(api.Node{Kind: kind, Set: place, Kids: kids})
			}
		}
	})
}

func forests(count int, use func([]api.Node)) {
	if count == 0 {
		use(nil)
		return
	}
	for first := 1; first <= count; first++ {
		trees(first, func(n api.Node) {
			forests(count-first, func(rest []api.Node) { use(append([]api.Node{n}, rest...)) })
		})
	}
}

func TestAllSmallExpressions(t *testing.T) {
	right := 0
	for count := 1; count <= 4; count++ {
		trees(count, func(n api.Node) {
			for _, sets := range [][][]api.Range{nil, {a}, {a, b}} {
				if judged(t, left(n, sets...)) {
					right++
				}
			}
		})
	}
	if right < 100 {
		t.Errorf("only %d of them may be", right)
	}
}

// some is an expression by lot, which may be or not. Sets are told in the order of their places, for the most part.
type some struct {
	*rand.Rand
	met, most int
}

func (l *some) node(depth int) api.Node {
	kind := l.Intn(6)
	if depth == 0 {
		kind = l.Intn(2)
	}
	if kind == api.NodeSet {
		if l.met < l.most && l.Intn(2) == 0 || l.met == 0 {
			l.met++
			return set(l.met - 1)
		}
		return set(l.Intn(l.met))
	}
	n := api.Node{Kind: kind}
	count := 2 + l.Intn(3)
	if hasSign(n) {
		count = 1
	} else if kind == api.NodeCat && (depth == 0 || l.Intn(3) == 0) {
		count = 0
	}
	for range count {
		n.Kids = append(n.Kids, l.node(depth-1))
	}
	return n
}

func (l *some) program() api.Program {
	l.met, l.most = 0, 1+l.Intn(6)
	var p api.Program
	for range l.Intn(5) {
		p.Rules = append(p.Rules, api.Rule{Break: l.Intn(2) == 0, Left: l.node(l.Intn(5)), Right: l.node(l.Intn(5))})
	}
	for _, i := range l.Perm(l.met) {
		p.Sets = append(p.Sets, list(3*i, 3*i+i%2, 1000, 1000+l.Intn(3)))
	}
	return p
}

// turned has one thing in it that is another one than before.
func (l *some) turned(p api.Program) api.Program {
	if len(p.Rules) == 0 {
		return p
	}
	at := &p.Rules[l.Intn(len(p.Rules))].Right
	for len(at.Kids) > 0 && l.Intn(4) > 0 {
		at = &at.Kids[l.Intn(len(at.Kids))]
	}
	switch l.Intn(8) {
	case 0:
		at.Kind = l.Intn(8) - 1
	case 1:
		at.Set = l.Intn(5) - 1
	case 2:
		at.Kids = append(at.Kids, none)
	case 3:
		at.Kids = at.Kids[:max(0, len(at.Kids)-1)]
	case 4:
		*at = star(*at)
	case 5:
		*at = cat(none, *at)
	case 6:
		p.Rules = p.Rules[1:]
	default:
		if len(p.Sets) > 1 {
			p.Sets[0] = slices.Concat(p.Sets[0], p.Sets[1])
		}
	}
	return p
}

// P8.3

func TestProgramsByLot(t *testing.T) {
	l := some{Rand: rand.New(rand.NewSource(5))}
	right, wrong := 0, 0
	for range 10000 {
		p := l.program()
		for range l.Intn(3) {
			p = l.turned(p)
		}
		if judged(t, p) {
			right++
		} else {
			wrong++
		}
		asParsed(t, p)
	}
	if right < 2500 || wrong < 2500 {
		t.Errorf("%d may be, %d may not", right, wrong)
	}
}

// asParsed holds Right against Parse: what may be comes back, and what comes back was parsed, so that it may be.
func asParsed(t *testing.T, p api.Program) {
	t.Helper()
	for _, r := range p.Rules {
		for _, x := range slices.Concat(inside(r.Left), inside(r.Right)) {
			if x.Kind == api.NodeSet && (x.Set < 0 || x.Set >= len(p.Sets)) {
				return
			}
		}
	}
	text := writtenWhole(p)
	if len(text) > 65536 {
		return
	}
	again, _, e := syntax.Parse([]byte(text))
	if back := e == api.OK && same(again, p); back != syntax.Right(p) {
		t.Fatalf("Right(%v): %v; Parse(%q): %v, %d", p, syntax.Right(p), text, again, e)
	}
}

// TestLongestText is of programs whose texts have as many bytes as may be, and one more.
func TestLongestText(t *testing.T) {
	for _, extra := range []int{0, 1} {
		kids := []api.Node{set(0)}
		for len(kids) < 1+(65536-len("keep []/;\n"))/2 {
			kids = append(kids, none)
		}
		n := cat(kids...)
		if extra == 1 {
			n.Kids[1] = star(none)
		}
		p := left(n, nil)
		b, _ := syntax.Print(p)
		if len(b) != 65536+extra {
			t.Fatalf("%d bytes", len(b))
		}
		comesBack(t, p)
	}
}

// TestHandedInStays writes over what Print told, and looks at what was handed in (R3).
func TestHandedInStays(t *testing.T) {
	fresh := func() api.Program {
		return program([][]api.Range{list('a', 'c', 'x', 'x'), b, nil}, breaks(cat(set(0), star(alt(set(1), none))), set(2)), keep(opt(set(0)), none))
	}
	p := fresh()
	first, _ := syntax.Print(p)
	kept := slices.Clone(first)
	for i := range first {
		first[i] = '!'
	}
	second, e := syntax.Print(p)
	if !same(p, fresh()) || string(second) != string(kept) || e != api.OK || !syntax.Right(p) {
		t.Errorf("%v, %q, %d", p, second, e)
	}
	wrong := fresh()
	wrong.Sets[0] = list('x', 'x', 'a', 'c')
	mayNot(t, wrong)
	if !slices.Equal(wrong.Sets[0], list('x', 'x', 'a', 'c')) {
		t.Errorf("a list that is no set was put in order: %v", wrong.Sets[0])
	}
}
