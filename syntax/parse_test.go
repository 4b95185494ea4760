package syntax_test

import (
	"math/rand"
	"slices"
	"strconv"
	"strings"
	"testing"

	"scansion/api"
	"scansion/lex"
	"scansion/syntax"
)

const top = api.MaxRune

// list is of ranges by Low and High, in turn.
func list(n ...int) []api.Range {
	var l []api.Range
	for i := 0; i+1 < len(n); i += 2 {
		l = append(l, api.Range{Low: n[i], High: n[i+1]})
	}
	return l
}

func set(place int) api.Node        { return api.Node{Kind: api.NodeSet, Set: place} }
func cat(l ...api.Node) api.Node    { return api.Node{Kind: api.NodeCat, Kids: l} }
func alt(l ...api.Node) api.Node    { return api.Node{Kind: api.NodeAlt, Kids: l} }
func star(n api.Node) api.Node      { return api.Node{Kind: api.NodeStar, Kids: []api.Node{n}} }
func plus(n api.Node) api.Node      { return api.Node{Kind: api.NodePlus, Kids: []api.Node{n}} }
func opt(n api.Node) api.Node       { return api.Node{Kind: api.NodeOpt, Kids: []api.Node{n}} }
func keep(a, b api.Node) api.Rule   { return api.Rule{Left: a, Right: b} }
func breaks(a, b api.Node) api.Rule { return api.Rule{Break: true, Left: a, Right: b} }

func sameNode(a, b api.Node) bool {
	return a.Kind == b.Kind && a.Set == b.Set && slices.EqualFunc(a.Kids, b.Kids, sameNode)
}

func sameRule(a, b api.Rule) bool {
	return a.Break == b.Break && sameNode(a.Left, b.Left) && sameNode(a.Right, b.Right)
}

// same takes nil and empty for the same, as all calls do (R2).
func same(a, b api.Program) bool {
	return slices.EqualFunc(a.Sets, b.Sets, slices.Equal) && slices.EqualFunc(a.Rules, b.Rules, sameRule)
}

func hold(t *testing.T, text string, want answer) {
	t.Helper()
	b := []byte(text)
	p, at, e := syntax.Parse(b)
	if string(b) != text {
		t.Fatalf("Parse(%+q) changed what it was handed", text)
	}
	if !same(p, want.program) || at != want.at || e != want.errno {
		t.Fatalf("Parse(%.2000q): %v, %d, %d; want %v, %d, %d", text, p, at, e, want.program, want.at, want.errno)
	}
}

func fault(t *testing.T, text string, at int, e api.Errno) {
	t.Helper()
	hold(t, text, answer{at: at, errno: e})
}

// rule is of a text that one rule stands in, with these sets.
func rule(t *testing.T, text string, want api.Rule, sets ...[]api.Range) {
	t.Helper()
	hold(t, text, answer{program: api.Program{Sets: sets, Rules: []api.Rule{want}}})
}

var none = cat()

// P8.1

func TestExample(t *testing.T) {
	rule(t, "set a = [a-z] - [x]; keep a / a*;", keep(set(0), star(set(0))), list('a', 'w', 'y', 'z'))
}

func TestNoRules(t *testing.T) {
	for _, b := range [][]byte{nil, {}} {
		if p, at, e := syntax.Parse(b); !same(p, api.Program{}) || at != 0 || e != api.OK {
			t.Errorf("Parse of nothing: %v, %d, %d", p, at, e)
		}
	}
	for _, s := range []string{" \t\r\n", "# a note", "# keep [a]/;", "set a=[a];", "set a = [a]; set b = a; # no rule\n", "set a = [];set b=[];set c=.;"} {
		hold(t, s, answer{})
	}
}

func TestBlanks(t *testing.T) {
	want := breaks(cat(set(0), set(1)), star(set(1)))
	for _, s := range []string{"break[a][b]/[b]*;", "break [a] [b] / [b] * ;", " # note\nbreak# note\n[a]\r\n[b]\t/\n[b]# note\n*\n;\n# note"} {
		rule(t, s, want, list('a', 'a'), list('b', 'b'))
	}
	rule(t, "set a=[a];set b=[b];break a b/b*;", want, list('a', 'a'), list('b', 'b'))
}

func TestExpressions(t *testing.T) {
	a, b, c := set(0), set(1), set(2)
	sets := [][]api.Range{list('a', 'a'), list('b', 'b'), list('c', 'c')}
	for _, x := range []struct {
		text string
		sets int
		want api.Node
	}{
		{"", 0, none},
		{"()", 0, none},
		{"(())", 0, none},
		{"[a]", 1, a},
		{"([a])", 1, a},
		{"((([a])))", 1, a},
		{"[a][b]", 2, cat(a, b)},
		{"[a][b][c][a]", 3, cat(a, b, c, a)},
		{"[a]([b][c])", 3, cat(a, cat(b, c))},
		{"([a][b])[c]", 3, cat(cat(a, b), c)},
		{"([a][b])", 2, cat(a, b)},
		{"()()", 0, cat(none, none)},
		{"()[a]", 1, cat(none, a)},
		{"[a]()", 1, cat(a, none)},

		{"|", 0, alt(none, none)},
		{"||", 0, alt(none, none, none)},
		{"|()", 0, alt(none, none)},
		{"()|", 0, alt(none, none)},
		{"(|)", 0, alt(none, none)},
		{"[a]|[b]", 2, alt(a, b)},
		{"[a]|[b]|[c]", 3, alt(a, b, c)},
		{"[a]|", 1, alt(a, none)},
		{"|[a]", 1, alt(none, a)},
		{"[a]||[b]", 2, alt(a, none, b)},
		{"[a][b]|[c]", 3, alt(cat(a, b), c)},
		{"[a]|[b][c]", 3, alt(a, cat(b, c))},
		{"([a][b])|[c]", 3, alt(cat(a, b), c)},
		{"([a]|[b])|[c]", 3, alt(alt(a, b), c)},
		{"[a]|([b]|[c])", 3, alt(a, alt(b, c))},
		{"[a]([b]|[c])", 3, cat(a, alt(b, c))},
		{"([a]|[b])[c]", 3, cat(alt(a, b), c)},
		{"(|)|(|)", 0, alt(alt(none, none), alt(none, none))},
		{"(|)(|)", 0, cat(alt(none, none), alt(none, none))},

		{"[a]*", 1, star(a)},
		{"[a]+", 1, plus(a)},
		{"[a]?", 1, opt(a)},
		{"[a]*+", 1, plus(star(a))},
		{"[a]+?*", 1, star(opt(plus(a)))},
		{"[a]***", 1, star(star(star(a)))},
		{"([a]*)+", 1, plus(star(a))},
		{"(([a]*)+)?", 1, opt(plus(star(a)))},
		{"[a]*[b]+[c]?", 3, cat(star(a), plus(b), opt(c))},
		{"[a][b]*", 2, cat(a, star(b))},
		{"([a][b])*", 2, star(cat(a, b))},
		{"([a]|[b])+", 2, plus(alt(a, b))},
		{"[a]|[b]?", 2, alt(a, opt(b))},
		{"()*", 0, star(none)},
		{"(|)?", 0, opt(alt(none, none))},
		{"[a]*([b]*|[c]?)+", 3, cat(star(a), plus(alt(star(b), opt(c))))},
	} {
		rule(t, "keep "+x.text+"/;", keep(x.want, none), sets[:x.sets]...)
		rule(t, "break/"+x.text+";", breaks(none, x.want), sets[:x.sets]...)
		rule(t, "keep "+x.text+"/"+x.text+";", keep(x.want, x.want), sets[:x.sets]...)
		named := x.text
		for _, s := range []string{"a", "b", "c"} {
			named = strings.ReplaceAll(named, "["+s+"]", " "+s+" ")
		}
		rule(t, "set c=[c];set b=[b];set a=[a];keep "+named+"/;", keep(x.want, none), sets[:x.sets]...)
	}
}

func TestSums(t *testing.T) {
	for sum, want := range map[string][]api.Range{
		"[a]":   list('a', 'a'),
		"[]":    nil,
		".":     list(0, top),
		"x":     list('a', 'f'),
		"(x)":   list('a', 'f'),
		"((.))": list(0, top),

		"x + [g]":   list('a', 'g'),
		"x - [b-c]": list('a', 'a', 'd', 'f'),
		"x & [e-z]": list('e', 'f'),
		"~x":        list(0, 'a'-1, 'g', top),
		"~~x":       list('a', 'f'),
		"~~~x":      list(0, 'a'-1, 'g', top),
		"~[]":       list(0, top),
		"~.":        nil,
		". - x":     list(0, 'a'-1, 'g', top),
		"x - .":     nil,
		"x - x":     nil,
		"x & .":     list('a', 'f'),
		"x + .":     list(0, top),
		"x-x":       nil,

		// Signs have no rank: what stands ahead is done first.
		"x - [b] + [b]":     list('a', 'f'),
		"x - ([b] + [b])":   list('a', 'a', 'c', 'f'),
		"[z] + x & [z]":     list('z', 'z'),
		"[z] + (x & [z])":   list('z', 'z'),
		"x + [z] & [y]":     nil,
		"x + ([z] & [y])":   list('a', 'f'),
		"x - [a] - [b]":     list('c', 'f'),
		"x - ([a] - [b])":   list('b', 'f'),
		"x - [a-c] & [c-d]": list('d', 'd'),
		"x & [c-z] - [d]":   list('c', 'c', 'e', 'f'),
		"x & y + [z] - [d]": list('c', 'c', 'e', 'f', 'z', 'z'),

		// ~ is of the one term behind it.
		"~x + x":           list(0, top),
		"~x & x":           nil,
		"~(x + [g-z])":     list(0, 'a'-1, 'z'+1, top),
		"~x + [b]":         list(0, 'a'-1, 'b', 'b', 'g', top),
		"~(x + [b])":       list(0, 'a'-1, 'g', top),
		"x - ~y":           list('c', 'f'),
		"x & ~y":           list('a', 'b'),
		"x & ~~y":          list('c', 'f'),
		"x & ~(~y + [c])":  list('d', 'f'),
		"~(~x & ~y)":       list('a', 'h'),
		"(x)&(y)":          list('c', 'f'),
		"((x + y) - (x))":  list('g', 'h'),
		"~[\\x{10FFFF}]":   list(0, top-1),
		"~[\\x{0}]":        list(1, top),
		"[a-cx] + [d] - x": list('x', 'x'),
	} {
		ahead := "set x = [a-f]; set y = [c-h]; set set_ = [q]; "
		rule(t, ahead+"set s = "+sum+"; keep s / ;", keep(set(0), none), want)
		rule(t, ahead+"set s = "+sum+"; set s2=s; set t=s2+s; break s t / s2;", breaks(cat(set(0), set(0)), set(0)), want)
	}
}

func TestNames(t *testing.T) {
	rule(t, "set a=[a];set b=a+[b];set c=b-a;keep a/b c;", keep(set(0), cat(set(1), set(2))), list('a', 'a'), list('a', 'b'), list('b', 'b'))
	for _, s := range []string{"sets", "set_", "set1", "se", "breaks", "brea", "keep_", "keeper", "kee", "a", "z_9", strings.Repeat("long_", 1000)} {
		rule(t, "set "+s+"=[a];keep "+s+"/"+s+";", keep(set(0), set(0)), list('a', 'a'))
		rule(t, "set "+s+"=[a];set x="+s+";keep x/;", keep(set(0), none), list('a', 'a'))
	}
	// A name may be given behind a rule, and between rules.
	hold(t, "keep/;set a=[a];break a/;", answer{program: api.Program{Sets: [][]api.Range{list('a', 'a')}, Rules: []api.Rule{keep(none, none), breaks(set(0), none)}}})
}

// TestSetsOnce is of sets that are met, each once, in their order.
func TestSetsOnce(t *testing.T) {
	a, b, c, d := list('a', 'a'), list('b', 'b'), list('c', 'c'), list('d', 'd')
	rule(t, "keep [b][a]/[b][c];", keep(cat(set(0), set(1)), cat(set(0), set(2))), b, a, c)
	rule(t, "set x=[a];set y=[b];keep y x/[a]|[b];", keep(cat(set(0), set(1)), alt(set(1), set(0))), b, a)
	rule(t, "set x=[a];set y=x;keep [a]x y/;", keep(cat(set(0), set(0), set(0)), none), a)
	rule(t, "set x=[a-d];keep [a-bc-d]/x [abcd] [dcba];", keep(set(0), cat(set(0), set(0), set(0))), list('a', 'd'))
	rule(t, "set x=~[];keep ./x [\\x{0}-\\x{10FFFF}];", keep(set(0), cat(set(0), set(0))), list(0, top))
	rule(t, "set x=[a]-[a];keep []/x;", keep(set(0), set(0)), nil)
	rule(t, "set x=[x];set y=[y];keep [a]/;", keep(set(0), none), a)
	rule(t, "keep ([c]|([b]))*[a]/(([d])[b]);", keep(cat(star(alt(set(0), set(1))), set(2)), cat(set(3), set(1))), c, b, a, d)
	hold(t, "keep/[b];set x=[z];break [a]/[b];keep x[c]/;", answer{program: api.Program{
		Sets:  [][]api.Range{b, a, list('z', 'z'), c},
		Rules: []api.Rule{keep(none, set(0)), breaks(set(1), set(0)), keep(cat(set(2), set(3)), none)},
	}})
	rule(t, "keep [][a]/[a-b][];", keep(cat(set(0), set(1)), cat(set(2), set(0))), nil, a, list('a', 'b'))
}

func TestRulesInOrder(t *testing.T) {
	text, want := "", []api.Rule(nil)
	for i := range 64 {
		if i%3 == 0 {
			text += "break [a] / ;"
			want = append(want, breaks(set(0), none))
		} else {
			text += "keep / [a];"
			want = append(want, keep(none, set(0)))
		}
		hold(t, text, answer{program: api.Program{Sets: [][]api.Range{list('a', 'a')}, Rules: want}})
	}
	n := len(text)
	for _, s := range []string{"keep /;", "break /;", "keep", "break = =", "keep x", "break (", "keep keep"} {
		fault(t, text+s, n, api.ErrFull)
		fault(t, text+" # note\n"+s, n+8, api.ErrFull)
		fault(t, text+"set a=.;"+s, n+8, api.ErrFull)
		fault(t, text+"set "+s, n+4, api.ErrSign)
	}
	fault(t, text+"set a=keep", n+6, api.ErrSign)
	fault(t, text+"x", n, api.ErrSign)
	fault(t, text+";", n, api.ErrSign)
	hold(t, text+"set a=[b];", answer{program: api.Program{Sets: [][]api.Range{list('a', 'a')}, Rules: want}})
}

// someSets are tokens of sets, no two of which are the same.
func someSets(n int) (text string, l [][]api.Range) {
	for i := range n {
		l = append(l, list(2*i, 2*i))
		text += lex.Set(l[i])
	}
	return text, l
}

func TestMostSets(t *testing.T) {
	text, l := someSets(60)
	var places []api.Node
	for i := range 60 {
		places = append(places, set(i))
	}
	full := "set all=.;set a=[\\x{0}];keep " + text
	rule(t, full+"/;", keep(cat(places...), none), l...)
	rule(t, full+"/a "+text+";", keep(cat(places...), cat(append([]api.Node{set(0)}, places...)...)), l...)
	rule(t, "set x=[x];set y=[y];"+full+"/;", keep(cat(places...), none), l...)

	n := len(full)
	for _, s := range []string{"all", "[z]", "[]", ".", "[z] x", ".**** ", "[\\x{1}]/;"} {
		fault(t, full+s, n, api.ErrFull)
		fault(t, full+"("+s, n+1, api.ErrFull)
		fault(t, full+"*|"+s, n+2, api.ErrFull)
		fault(t, full+"/"+s, n+1, api.ErrFull)
		fault(t, full+"/;break a "+s, n+10, api.ErrFull)
	}
	fault(t, full+"none", n, api.ErrNone)
	fault(t, full+"/none", n+1, api.ErrNone)
	fault(t, full+"~", n, api.ErrSign)
	fault(t, full+"set", n, api.ErrSign)

	// Sets by name alone: sixty names that are met, and any number that are not.
	given, used := "", ""
	for i := range 100 {
		given += "set s" + strconv.Itoa(i) + "=" + lex.Set(list(2*i, 2*i)) + ";"
		if i < 60 {
			used += " s" + strconv.Itoa(i)
		}
	}
	rule(t, given+"keep"+used+"/;", keep(cat(places...), none), l...)
	fault(t, given+"keep"+used+" s60/;", len(given)+4+len(used)+1, api.ErrFull)
}

func TestMostDepth(t *testing.T) {
	open := func(n int) string { return strings.Repeat("(", n) }
	shut := func(n int) string { return strings.Repeat(")", n) }
	not := func(n int) string { return strings.Repeat("~", n) }

	a := list('a', 'a')
	rule(t, "keep "+open(20)+"[a]"+shut(20)+"/;", keep(set(0), none), a)
	rule(t, "keep/"+open(20)+shut(20)+";", keep(none, none))
	rule(t, "keep "+open(20)+shut(20)+open(20)+shut(20)+"/"+open(20)+shut(20)+";", keep(cat(none, none), none))
	deep, text := set(0), "[a]"
	for range 20 {
		deep, text = cat(set(0), deep), "[a]("+text+")"
	}
	rule(t, "keep "+text[4:len(text)-1]+"/;", keep(deep.Kids[1], none), a)
	rule(t, "break/"+text+";", breaks(none, deep), a)

	for _, behind := range []string{"", "[a]", ")", shut(21) + "/;", "=", "x", "~"} {
		fault(t, "keep "+open(21)+behind, 25, api.ErrFull)
		fault(t, "keep/"+open(21)+behind, 25, api.ErrFull)
		fault(t, "keep [a]|()"+open(19)+"()*("+"("+behind, 34, api.ErrFull)
		fault(t, "set a="+open(21)+behind, 26, api.ErrFull)
		fault(t, "set a="+not(21)+behind, 26, api.ErrFull)
		fault(t, "set a="+not(20)+"("+behind, 26, api.ErrFull)
		fault(t, "set a="+open(20)+"~"+behind, 26, api.ErrFull)
		fault(t, "set a="+strings.Repeat("~(", 10)+"~"+behind, 26, api.ErrFull)
		fault(t, "set a="+strings.Repeat("(~", 10)+"("+behind, 26, api.ErrFull)
		fault(t, "set a="+open(20)+"[a]-~"+behind, 30, api.ErrFull)
		fault(t, "set a="+open(20)+"[a])+(("+behind, 32, api.ErrFull)
	}
	fault(t, "keep "+open(20)+"~", 25, api.ErrSign)
	fault(t, "set a="+open(20)+"[a](", 29, api.ErrSign)
	fault(t, "set a="+open(20)+"[a]~", 29, api.ErrSign)
	fault(t, "set a="+not(20)+")", 26, api.ErrSign)

	for sum, want := range map[string][]api.Range{
		open(20) + "[a]" + shut(20):                 a,
		not(20) + "[a]":                             a,
		not(19) + "[a]":                             list(0, 'a'-1, 'a'+1, top),
		strings.Repeat("~(", 10) + "[a]" + shut(10): a,
		strings.Repeat("(~", 10) + "[a]" + shut(10): a,
		not(20) + "[a]+" + not(20) + "[b]-" + open(20) + "[b]" + shut(20): a,
		not(10) + open(10) + "[a]+[b]" + shut(10):                         list('a', 'b'),
		open(19) + "~[a]+~[b]" + shut(19):                                 list(0, top),
	} {
		rule(t, "set s="+sum+";keep s/;", keep(set(0), none), want)
	}
	// What is open in a sum is closed in the next rule.
	rule(t, "set s="+not(20)+"[a];keep "+open(20)+"s"+shut(20)+"/;", keep(set(0), none), a)
}

func TestMostSigns(t *testing.T) {
	for _, a := range []string{"*", "+", "?"} {
		for _, b := range []string{"*", "+", "?"} {
			fault(t, "keep ."+a+b+a+b+"/;", 9, api.ErrFull)
			fault(t, "keep ()"+a+a+b+b, 10, api.ErrFull)
			fault(t, "keep (."+a+a+b+")"+b, 11, api.ErrFull)
			fault(t, "keep (."+a+a+")"+b+a, 11, api.ErrFull)
			fault(t, "keep (."+a+")"+b+b+a, 11, api.ErrFull)
			fault(t, "keep (.)"+a+b+b+a, 11, api.ErrFull)
		}
	}
	fault(t, "keep [a]**** / ;", 11, api.ErrFull)
	fault(t, "keep ([a]***)*/;", 13, api.ErrFull)
	fault(t, "keep/[a] * * # \n * *", 19, api.ErrFull)
	fault(t, "keep (((.*)*)*)*/;", 15, api.ErrFull)
	fault(t, "keep (((.*))*)**/;", 15, api.ErrFull)
	fault(t, "keep ((())***)*/;", 14, api.ErrFull)
	fault(t, "keep ((..|.)***)?/;", 16, api.ErrFull)
	fault(t, "keep [a](.***)*/;", 14, api.ErrFull)
	fault(t, "keep |(.***)*/;", 12, api.ErrFull)
	fault(t, "keep (((((.***)))))*/;", 19, api.ErrFull)

	// Where more than the one part stands in a bracket, the count begins anew.
	all := list(0, top)
	three := star(star(star(set(0))))
	for text, want := range map[string]api.Node{
		".***":          three,
		"(.***)":        three,
		"(((.*)*)*)":    three,
		".***.***":      cat(three, three),
		"(..***)***":    star(star(star(cat(set(0), three)))),
		"(.***())*":     star(cat(three, none)),
		"(|.***)*":      star(alt(none, three)),
		"(.***|)***":    star(star(star(alt(three, none)))),
		"(.***|.***)*":  star(alt(three, three)),
		"(()***.***)*":  star(cat(star(star(star(none))), three)),
		"((.***)(.))*":  star(cat(three, set(0))),
		"(.***).":       cat(three, set(0)),
		"(.**)*":        three,
		"(.)***":        three,
		"((.**).)**":    star(star(cat(star(star(set(0))), set(0)))),
		"(((.***)|))*.": cat(star(alt(three, none)), set(0)),
	} {
		sets := [][]api.Range{all}
		rule(t, "keep "+text+"/;", keep(want, none), sets...)
		rule(t, "keep/"+text+";", keep(none, want), sets...)
	}
}

func TestLexFaults(t *testing.T) {
	for _, s := range []string{"A", "keep A", "= = [a", "set set [c-a]", "keep/;\xFF", "x [\\x{110000}]", "keep [a]****[", "set a=.;set a=.;_", strings.Repeat(" ", 65537), "[", "keep \\"} {
		_, at, e := lex.Tokens([]byte(s))
		if e == api.OK {
			t.Fatalf("%+q has tokens", s)
		}
		fault(t, s, at, e)
	}
	long := strings.Repeat(" ", 65536-7) + "keep/ ;"
	rule(t, long, keep(none, none))
	fault(t, long+" ", 0, api.ErrFull)
	fault(t, strings.Repeat(" ", 65535)+";", 65535, api.ErrSign)
	fault(t, strings.Repeat(" ", 65532)+"keep", 65536, api.ErrSign)
}

func TestNamesThatAreThere(t *testing.T) {
	for text, at := range map[string]int{
		"set a=.;set a=.;":                 12,
		"set a=.;set a":                    12,
		"set a=.;set a keep":               12,
		"set a=.;set b=a;set a=b;":         20,
		"set a=.;set b=a;set b":            20,
		"set a=.;keep a/a;set  # note\n a": 30,
		"set ab=[];set abc=.;set ab=[];":   24,
	} {
		fault(t, text, at, api.ErrThere)
	}
}

func TestNamesThatAreNot(t *testing.T) {
	for text, at := range map[string]int{
		"set a=a;":                6,
		"set a=b":                 6,
		"set a=.;set b=.+c;":      16,
		"set a=.-~b;":             9,
		"set a=(.&(b":             10,
		"set a=.+a;":              8,
		"keep b/;":                5,
		"keep/b;":                 5,
		"keep b":                  5,
		"keep (b":                 6,
		"keep .|.b*":              8,
		"set a=.;keep aa/;":       13,
		"set aa=.;keep a/;":       14,
		"keep a/;set a=.;":        5,
		"set a=.;keep a/a b/;":    17,
		"set a=b;set b=.;":        6,
		"set a=[a-z];keep a z/;":  19,
		"keep sets/;":             5,
		"keep a****":              5,
		"set a=b b":               6,
		"keep [a][b]|[c](d":       16,
		"set a=.;break .*/.?|b ;": 20,
	} {
		fault(t, text, at, api.ErrNone)
	}
}

func TestTokensThatMayNotStand(t *testing.T) {
	for text, at := range map[string]int{
		"x": 0, ";": 0, "[a]": 0, "=": 0, ".": 0, "*": 0, "keep/;;": 6, "a=.;": 0, "set a=.;a": 8, "set a=.;.": 8, "sets a=.;": 0,

		"set": 3, "set ": 4, "set #": 5, "set ;": 4, "set =": 4, "set [a]": 4, "set .": 4,
		"set set=.;": 4, "set break=.;": 4, "set keep=.;": 4,
		"set a": 5, "set a;": 5, "set a a": 6, "set a .": 6, "set a set": 6, "set a-": 5, "set a[a]": 5,
		"set a=": 6, "set a=;": 6, "set a==": 6, "set a=+": 6, "set a=-.": 6, "set a=&": 6, "set a=*": 6, "set a=)": 6, "set a=/": 6, "set a=|": 6, "set a=?": 6,
		"set a=set;": 6, "set a=break;": 6, "set a=keep;": 6,
		"set a=.": 7, "set a=. ": 8, "set a=..": 7, "set a=.a": 7, "set a=.b": 7, "set a=.[a]": 7, "set a=.(": 7, "set a=.~": 7, "set a=.=": 7, "set a=.*": 7, "set a=.?": 7, "set a=.|": 7, "set a=./": 7, "set a=.)": 7, "set a=.set": 7, "set a=.keep": 7,
		"set a=.+": 8, "set a=.+;": 8, "set a=.++": 8, "set a=.+)": 8, "set a=.-*": 8, "set a=.&set": 8, "set a=.--": 8,
		"set a=(": 7, "set a=();": 7, "set a=(;": 7, "set a=(.;": 8, "set a=(.": 8, "set a=(.+)": 9, "set a=(.+;": 9, "set a=(.)": 9, "set a=(.))": 9, "set a=((.);": 10, "set a=(.).": 9, "set a=(.)(": 9, "set a=(.)~": 9,
		"set a=~": 7, "set a=~;": 7, "set a=~)": 7, "set a=~+": 7, "set a=~.": 8, "set a=~..": 8, "set a=~.~": 8, "set a=~(.;": 9, "set a=~.)": 8,

		"keep": 4, "break": 5, "keep ": 5, "keep;": 4, "keep /": 6, "keep//": 5, "keep /;/": 7, "keep/=": 5, "keep .;": 6, "keep .": 6, "keep ./.": 8, "keep ././": 8, "break=": 5,
		"keep set/;": 5, "keep break/;": 5, "keep keep/;": 5, "keep/set;": 5, "keep/keep": 5, "keep .break": 6, "keep .|keep": 7, "keep (set": 6, "keep .*set": 7,
		"keep *": 5, "keep +/;": 5, "keep/?": 5, "keep (*": 6, "keep |*": 6, "keep .|+": 7, "keep .|?": 7, "keep ()(?": 8,
		"keep )": 5, "keep .)": 6, "keep/.)": 6, "keep ())": 7, "keep/)": 5, "keep |)": 6,
		"keep (/": 6, "keep (./": 7, "keep/(;": 6, "keep/(.;": 7, "keep (": 6, "keep (.": 7, "keep (|": 7, "keep ((.)/": 9, "keep/(()": 8,
		"keep ~.": 5, "keep .~": 6, "keep .-.": 6, "keep .&.": 6, "keep .=": 6, "keep/-": 5, "keep/&": 5, "keep (~": 6,
		"keep ./.keep": 8, "keep /set a=.;": 6,
	} {
		fault(t, text, at, api.ErrSign)
	}
}

// TestEnds cuts texts off at each of their tokens: none of what is left is a text, unless a rule or a set has just ended.
func TestEnds(t *testing.T) {
	for _, whole := range []string{
		"set a = [a] - ( ~ . & [b] ) ;",
		"set a = ~ ( ( ~ ~ [a] + [b] ) ) ;",
		"keep [a] * [b] | ( [c] ? | ) + / . ;",
		"break / ( ( ) * ) [a] ;",
	} {
		for i := range whole {
			if whole[i] != ' ' {
				continue
			}
			for _, ahead := range []string{"", "keep/;", "set x=.;"} {
				fault(t, ahead+whole[:i], len(ahead)+i, api.ErrSign)
				fault(t, ahead+whole[:i]+" # note\n", len(ahead)+i+8, api.ErrSign)
			}
		}
		if _, at, e := syntax.Parse([]byte(whole)); at != 0 || e != api.OK {
			t.Errorf("Parse(%q): %d, %d", whole, at, e)
		}
	}
}

// held holds a text against the machine, and what was parsed against P8.3.
func held(t *testing.T, text string) bool {
	t.Helper()
	want := byMachine([]byte(text))
	hold(t, text, want)
	if want.errno == api.OK {
		comesBack(t, want.program)
	}
	return want.errno == api.OK
}

// all hands out all texts of at most so many of some pieces.
func all(pieces []string, most int, use func(string)) {
	var longer func(s string, more int)
	longer = func(s string, more int) {
		use(s)
		if more > 0 {
			for _, p := range pieces {
				longer(s+p, more-1)
			}
		}
	}
	longer("", most)
}

func TestAllShortTexts(t *testing.T) {
	all([]string{"set ", "break ", "keep ", "a ", "[b]", "=", ";", "/", "|", "*", "+", "?", "(", ")", ".", "~", "&", "-"}, 4, func(s string) { held(t, s) })
}

func TestAllShortSums(t *testing.T) {
	all([]string{"a ", "[b-c]", ".", "~", "(", ")", "+", "-", "&", ";"}, 5, func(s string) {
		held(t, "set a=[a-b];set b="+s+";keep b/;")
	})
}

func TestAllShortExpressions(t *testing.T) {
	all([]string{"a ", "[b]", "(", ")", "|", "*", "/"}, 6, func(s string) {
		held(t, "set a=[a];keep "+s+"/;")
	})
	all([]string{"[b]", "(", ")", "|", "+", ";"}, 6, func(s string) {
		held(t, "keep/[a]"+s+";")
	})
}

func TestAllSigns(t *testing.T) {
	all([]string{"*", ")", "(", ".", "|"}, 7, func(s string) {
		held(t, "keep(((."+s+"/;")
	})
}

// lot writes texts of the language by lot, now and then beyond its limits, and now and then with a token too much or too few.
type lot struct{ *rand.Rand }

func (l lot) of(s ...string) string { return s[l.Intn(len(s))] }

func (l lot) set() string {
	return l.of("[a]", "[b]", "[a-c]", "[]", ".", "a ", "b ", "c ", "[x-za]", "[\\x{"+strconv.FormatInt(int64(l.Intn(10)), 16)+"}]")
}

func (l lot) sum(depth int) string {
	s := l.term(depth)
	for l.Intn(3) == 0 {
		s += l.of("+", "-", "&") + l.term(depth)
	}
	return s
}

func (l lot) term(depth int) string {
	switch l.Intn(4) {
	case 0:
		if depth > 0 {
			return "~" + l.term(depth-1)
		}
	case 1:
		if depth > 0 {
			return "(" + l.sum(depth-1) + ")"
		}
	}
	return l.set()
}

func (l lot) regex(depth int) string {
	s := l.cat(depth)
	for l.Intn(3) == 0 {
		s += "|" + l.cat(depth)
	}
	return s
}

func (l lot) cat(depth int) string {
	s := ""
	for l.Intn(5) < 3 {
		if depth > 0 && l.Intn(2) == 0 {
			s += "(" + l.regex(depth-1) + ")"
		} else {
			s += l.set()
		}
		for l.Intn(3) == 0 {
			s += l.of("*", "+", "?")
		}
	}
	return s
}

func (l lot) text() string {
	s := "set a=[a];set b=[c-f]+a;"
	for range l.Intn(6) {
		if l.Intn(3) == 0 {
			s += "set " + l.of("a", "b", "c", "d", "e", "f", "g", "keep") + "=" + l.sum(l.Intn(6)) + ";"
		} else {
			s += l.of("keep ", "break ") + l.regex(l.Intn(6)) + "/" + l.regex(l.Intn(6)) + ";"
		}
	}
	for l.Intn(4) == 0 && s != "" {
		at := l.Intn(len(s))
		s = s[:at] + l.of("", "", "a", " ", "(", ")", "*", ";", "/", "|", "[c]", "+", "~", "keep ", "set ") + s[at+l.Intn(2):]
	}
	return s
}

func TestTextsByLot(t *testing.T) {
	l := lot{rand.New(rand.NewSource(1))}
	right := 0
	for range 20000 {
		if held(t, l.text()) {
			right++
		}
	}
	if right < 5000 || right > 15000 {
		t.Errorf("%d texts of the language", right)
	}
}

// TestDeepTextsByLot is of brackets, and of ~, about as many as there may be.
func TestDeepTextsByLot(t *testing.T) {
	l := lot{rand.New(rand.NewSource(2))}
	right := 0
	for range 6000 {
		sum, shut, regex := "[a]", "", "[a]"
		for range 14 + l.Intn(10) {
			sum += l.of("-", "+", "&")
			switch l.Intn(8) {
			case 0:
				sum += "[b])+("
			case 1, 2, 3:
				sum += "~"
			default:
				sum += "("
				shut += ")"
			}
			sum += l.of("[b]", "[c]", "~[a]", "([b])")
		}
		for range 17 + l.Intn(6) {
			regex = "(" + l.of("", "[b]", "[c]*", "|", "[c]|") + regex + ")" + l.of("", "*", "+?", "|", "[b]")
		}
		for _, s := range []string{"set s=" + sum + shut + ";keep s/s;", "break/" + regex + ";", "set s=" + strings.Repeat("~", 14+l.Intn(10)) + "[a];keep s/;"} {
			if held(t, s) {
				right++
			}
		}
	}
	if right < 4500 || right > 13500 {
		t.Errorf("%d texts of the language", right)
	}
}

// TestManyByLot is of about as many sets and rules as there may be.
func TestManyByLot(t *testing.T) {
	l := lot{rand.New(rand.NewSource(3))}
	right := 0
	for range 500 {
		text := "set a=[a];"
		most := 55 + l.Intn(10)
		for i := range 60 + l.Intn(8) {
			met := l.Intn(i+1) % most
			text += l.of("keep ", "break ") + lex.Set(list(5*(i%most), 5*(i%most))) + "/" + l.of("", "[\\x{0}]", lex.Set(list(5*met, 5*met))) + ";"
		}
		if held(t, text) {
			right++
		}
	}
	if right < 20 || right > 480 {
		t.Errorf("%d texts of the language", right)
	}
}

// lists are all lists of a program, so that it can be seen whether two of them share memory.
func lists(p api.Program) (sets [][]api.Range, kids [][]api.Node) {
	var walk func(n api.Node)
	walk = func(n api.Node) {
		kids = append(kids, n.Kids)
		for _, k := range n.Kids {
			walk(k)
		}
	}
	for _, r := range p.Rules {
		walk(r.Left)
		walk(r.Right)
	}
	return p.Sets, kids
}

// TestToldIsTheCallers writes over what was handed in, and over what was told (R3).
func TestToldIsTheCallers(t *testing.T) {
	const text = "set a=[a-cx];set b=a;set c=b+[z];keep a([a-cx]b)*|c/(a|[m][a-cx])c;break a/c([m]|(a c)?);"
	b := []byte(text)
	p, _, e := syntax.Parse(b)
	for i := range b {
		b[i] = '!'
	}
	want := byMachine([]byte(text)).program
	if e != api.OK || !same(p, want) {
		t.Fatalf("the program hangs on what was handed in: %v", p)
	}
	sets, kids := lists(p)
	for i, s := range sets {
		for j := range s {
			s[j] = api.Range{Low: -i, High: i}
		}
		_ = append(s, api.Range{Low: -7, High: -7})
	}
	for i, s := range sets {
		for _, r := range s {
			if r != (api.Range{Low: -i, High: i}) {
				t.Fatalf("two sets share their ranges: %v", sets)
			}
		}
	}
	for i, l := range kids {
		for j := range l {
			l[j] = api.Node{Kind: 100 + i, Set: j}
		}
		_ = append(l, api.Node{Kind: -7})
	}
	for i, l := range kids {
		for j, n := range l {
			if n.Kind != 100+i || n.Set != j {
				t.Fatalf("two expressions share their parts: %v", l)
			}
		}
	}
	hold(t, text, answer{program: want})
}

// TestNothingIsKept asks the same thing once more, with others between (R4).
func TestNothingIsKept(t *testing.T) {
	fault(t, "keep a/;", 5, api.ErrNone)
	rule(t, "set a=[a];keep a/;", keep(set(0), none), list('a', 'a'))
	fault(t, "set a=((", 8, api.ErrSign)
	rule(t, "set a=[b];keep a/;", keep(set(0), none), list('b', 'b'))
	fault(t, "keep a/;", 5, api.ErrNone)
}

func FuzzParse(f *testing.F) {
	l := lot{rand.New(rand.NewSource(4))}
	for range 50 {
		f.Add([]byte(l.text()))
	}
	f.Add([]byte("set a = [a-z] - [x]; keep a / (a|[0-9])* a?;break/.;"))
	f.Fuzz(func(t *testing.T, b []byte) { held(t, string(b)) })
}
