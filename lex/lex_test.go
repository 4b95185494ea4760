package lex_test

import (
	"math"
	"math/rand"
	"reflect"
	"slices"
	"strconv"
	"strings"
	"testing"

	"scansion/api"
	"scansion/lex"
	"scansion/ranges"
)

const top = api.MaxRune

func name(at int, s string) api.Token { return api.Token{Kind: api.TokName, At: at, Text: s} }
func sign(at int, s string) api.Token { return api.Token{Kind: api.TokSign, At: at, Text: s} }
func end(at int) api.Token            { return api.Token{Kind: api.TokEnd, At: at} }

// set is a token by Low and High of its ranges, in turn.
func set(at int, n ...int) api.Token {
	return api.Token{Kind: api.TokSet, At: at, Set: list(n...)}
}

func list(n ...int) []api.Range {
	var l []api.Range
	for i := 0; i+1 < len(n); i += 2 {
		l = append(l, api.Range{Low: n[i], High: n[i+1]})
	}
	return l
}

func same(a, b api.Token) bool {
	return a.Kind == b.Kind && a.At == b.At && a.Text == b.Text && slices.Equal(a.Set, b.Set)
}

func hold(t *testing.T, text string, want answer) {
	t.Helper()
	b := []byte(text)
	l, at, e := lex.Tokens(b)
	if string(b) != text {
		t.Fatalf("Tokens(%+q) changed what it was handed", text)
	}
	if !slices.EqualFunc(l, want.tokens, same) || at != want.at || e != want.errno {
		t.Fatalf("Tokens(%.200q): %v, %d, %d; want %v, %d, %d", text, l, at, e, want.tokens, want.at, want.errno)
	}
}

func tokens(t *testing.T, text string, want ...api.Token) {
	t.Helper()
	hold(t, text, answer{tokens: want})
}

func fault(t *testing.T, text string, at int, e api.Errno) {
	t.Helper()
	hold(t, text, answer{at: at, errno: e})
}

// P7.1

func TestExample(t *testing.T) {
	tokens(t, "set a = [a-c];", name(0, "set"), name(4, "a"), sign(6, "="), set(8, 'a', 'c'), sign(13, ";"), end(14))
}

func TestBlanksAndNotes(t *testing.T) {
	for _, b := range [][]byte{nil, {}} {
		if l, at, e := lex.Tokens(b); len(l) != 1 || !same(l[0], end(0)) || at != 0 || e != api.OK {
			t.Errorf("Tokens of nothing: %v, %d, %d", l, at, e)
		}
	}
	for _, s := range []string{
		" ", "\t", "\r", "\n", " \t\r\n \r\n", "#", "##", "#\n", "# [a-", "# a = b\n", "# a\n # b", "#a\n#b\n\n", "# A \\ ] { \x00\x1F\x7F\t\n",
		"# a\rb = c", "# é ไทย \U0001F600 \uFFFD", " # a \r\n\t",
	} {
		tokens(t, s, end(len(s)))
		tokens(t, s+"\n"+"a", name(len(s)+1, "a"), end(len(s)+2))
	}
	tokens(t, "a#b\nc", name(0, "a"), name(4, "c"), end(5))
	tokens(t, "a#b\rc", name(0, "a"), end(5))
	tokens(t, "[]#[]\n[]", set(0), set(6), end(8))
	tokens(t, "=# é\n;", sign(0, "="), sign(6, ";"), end(7))
	tokens(t, "\n\n a \t= \r\n b\n", name(3, "a"), sign(6, "="), name(11, "b"), end(13))
}

func TestNames(t *testing.T) {
	for _, s := range []string{"a", "z", "m", "az", "a0", "a9", "a_", "z__", "a_1", "q09z", "set", "break", "keep", strings.Repeat("b_7", 1000)} {
		tokens(t, s, name(0, s), end(len(s)))
		tokens(t, " "+s+" ", name(1, s), end(len(s)+2))
		tokens(t, s+";"+s, name(0, s), sign(len(s), ";"), name(len(s)+1, s), end(2*len(s)+1))
		tokens(t, s+"[]"+s, name(0, s), set(len(s)), name(len(s)+2, s), end(2*len(s)+2))
	}
	tokens(t, "a b", name(0, "a"), name(2, "b"), end(3))
	tokens(t, "a-b_-c", name(0, "a"), sign(1, "-"), name(2, "b_"), sign(4, "-"), name(5, "c"), end(6))
	fault(t, "aB", 1, api.ErrSign)
	fault(t, "a0é", 2, api.ErrSign)
	fault(t, "a _", 2, api.ErrSign)
	fault(t, "a 1", 2, api.ErrSign)
}

func TestSigns(t *testing.T) {
	const all = "=;/|*+?().~&-"
	want := []api.Token{}
	for i, r := range all {
		tokens(t, string(r), sign(0, string(r)), end(1))
		want = append(want, sign(i, string(r)))
	}
	tokens(t, all, append(want, end(len(all)))...)
}

// TestFirstSigns is of texts that are one sign: which of them are tokens, blanks, or neither.
func TestFirstSigns(t *testing.T) {
	for r := range 0x3000 {
		s := string(rune(r))
		switch {
		case strings.Contains(" \t\r\n#", s):
			tokens(t, s, end(1))
		case strings.Contains("=;/|*+?().~&-", s):
			tokens(t, s, sign(0, s), end(1))
		case 'a' <= r && r <= 'z':
			tokens(t, s, name(0, s), end(1))
		case r == '[':
			fault(t, s, 1, api.ErrEnd)
		default:
			fault(t, s, 0, api.ErrSign)
			fault(t, "= "+s+" ;", 2, api.ErrSign)
			fault(t, "= "+s+"\xFF", 2, api.ErrSign)
		}
	}
}

func TestSets(t *testing.T) {
	for _, c := range []struct {
		text string
		want api.Token
	}{
		{"[]", set(0)},
		{"[a]", set(0, 'a', 'a')},
		{"[a-a]", set(0, 'a', 'a')},
		{"[a-c]", set(0, 'a', 'c')},
		{"[ab]", set(0, 'a', 'b')},
		{"[ca]", set(0, 'a', 'a', 'c', 'c')},
		{"[a-cb-ee-f]", set(0, 'a', 'f')},
		{"[x-za-c]", set(0, 'a', 'c', 'x', 'z')},
		{"[aaa]", set(0, 'a', 'a')},
		{"[acbegf]", set(0, 'a', 'c', 'e', 'g')},
		{"[a-ab-b]", set(0, 'a', 'b')},

		{`[\[]`, set(0, '[', '[')},
		{`[\]]`, set(0, ']', ']')},
		{`[\-]`, set(0, '-', '-')},
		{`[\\]`, set(0, '\\', '\\')},
		{`[\[-\]]`, set(0, '[', ']')},
		{`[\--\\]`, set(0, '-', '\\')},
		{`[+-\-]`, set(0, '+', '-')},
		{`[\[\]\-\\]`, set(0, '-', '-', '[', ']')},

		{`[\x{0}]`, set(0, 0, 0)},
		{`[\x{9}\x{A}\x{F}]`, set(0, 9, 10, 15, 15)},
		{`[\x{000000}]`, set(0, 0, 0)},
		{`[\x{000041}]`, set(0, 0x41, 0x41)},
		{`[\x{12}\x{123}\x{1234}\x{12345}]`, set(0, 0x12, 0x12, 0x123, 0x123, 0x1234, 0x1234, 0x12345, 0x12345)},
		{`[\x{BCDEF}]`, set(0, 0xBCDEF, 0xBCDEF)},
		{`[\x{10FFFF}]`, set(0, top, top)},
		{`[\x{0}-\x{10FFFF}]`, set(0, 0, top)},
		{`[\x{10FFFF}-\x{10FFFF}]`, set(0, top, top)},
		{`[\x{D800}-\x{DFFF}]`, set(0, 0xD800, 0xDFFF)},
		{`[\x{41}-C\x{44}]`, set(0, 0x41, 0x44)},
		{`[A-\x{43}]`, set(0, 'A', 'C')},

		{"[é]", set(0, 0xE9, 0xE9)},
		{"[ก-ฮ]", set(0, 0xE01, 0xE2E)},
		{"[\U0001F600-\U0001F64F]", set(0, 0x1F600, 0x1F64F)},
		{"[a-\U0010FFFF]", set(0, 'a', top)},
		{"[\uFFFD]", set(0, 0xFFFD, 0xFFFD)},
		{"[x{41}]", set(0, '1', '1', '4', '4', 'x', 'x', '{', '{', '}', '}')},
		{"[ # =]", set(0, ' ', ' ', '#', '#', '=', '=')},
		{"[ -~]", set(0, ' ', '~')},
		{"[\x7F\u0085\u2028]", set(0, 0x7F, 0x7F, 0x85, 0x85, 0x2028, 0x2028)},
	} {
		n := len(c.text)
		tokens(t, c.text, c.want, end(n))
		again := c.want
		again.At = n
		tokens(t, c.text+c.text, c.want, again, end(2*n))
		behind := c.want
		behind.At = 5
		tokens(t, "a # \n"+c.text+"*", name(0, "a"), behind, sign(5+n, "*"), end(6+n))
	}
}

// TestPlacesAreBytes is of tokens behind signs of several bytes.
func TestPlacesAreBytes(t *testing.T) {
	tokens(t, "[é]a[ก]=[\U0001F600]b # é\n/", set(0, 0xE9, 0xE9), name(4, "a"), set(5, 0xE01, 0xE01), sign(10, "="), set(11, 0x1F600, 0x1F600), name(17, "b"), sign(24, "/"), end(25))
	fault(t, "[é-ก]a_\U0001F600", 10, api.ErrSign)
	fault(t, "[é", 3, api.ErrEnd)
	fault(t, "[éก-é]", 3, api.ErrArg)
}

// TestSetsLetters is of all signs up to 3000 as letters: as they are, behind a backslash, behind its x, and within braces.
func TestSetsLetters(t *testing.T) {
	for r := range 0x3000 {
		s := string(rune(r))
		n := len(s)
		guarded := strings.Contains(`[]-\`, s)
		switch {
		case s == "]":
			tokens(t, "[]", set(0), end(2))
		case s == `\`:
			fault(t, `[\a]`, 2, api.ErrSign)
		case guarded || r < 0x20:
			fault(t, "["+s+"]", 1, api.ErrSign)
			fault(t, "[a"+s+s+"]", map[bool]int{true: 3, false: 2}[s == "-"], api.ErrSign)
		default:
			tokens(t, "["+s+"]", set(0, r, r), end(n+2))
			tokens(t, "["+s+"-"+s+"]", set(0, r, r), end(2*n+3))
		}
		if s != `\` && (guarded || r < 0x20) {
			fault(t, "[a-"+s+"]", 3, api.ErrSign)
		}
		if guarded {
			tokens(t, `[\`+s+"]", set(0, r, r), end(4))
			tokens(t, `[\`+s+`-\x{7F}]`, set(0, r, 0x7F), end(11))
		} else if s != "x" {
			fault(t, `[\`+s+"]", 2, api.ErrSign)
			fault(t, `[a-\`+s+"]", 4, api.ErrSign)
		}
		if s != "{" {
			fault(t, `[\x`+s+"1}]", 3, api.ErrSign)
		}
		if strings.Contains("0123456789ABCDEF", s) {
			n, _ := strconv.ParseInt(s, 16, 0)
			tokens(t, `[\x{`+s+`}]`, set(0, int(n), int(n)), end(7))
			fault(t, `[\x{012345`+s+`}]`, 10, api.ErrSign)
			continue
		}
		fault(t, `[\x{`+s+`}]`, 4, api.ErrSign)
		if s != "}" {
			fault(t, `[\x{4`+s+`}]`, 5, api.ErrSign)
			fault(t, `[\x{012345`+s+`}]`, 10, api.ErrSign)
		}
	}
}

// TestEnds cuts texts of sets off at each of their signs.
func TestEnds(t *testing.T) {
	for _, s := range []string{
		`[a-c\]-\]é-ก\x{41}-\x{10FFFF}\\-\x{00005D}z]`,
		"[ #a",
	} {
		for cut := range s {
			if cut > 0 {
				fault(t, s[:cut], cut, api.ErrEnd)
				fault(t, "a = # note\n"+s[:cut], 11+cut, api.ErrEnd)
				fault(t, s[:cut]+"\xFF", cut, api.ErrSign)
				fault(t, s[:cut]+"\n]", cut, api.ErrSign)
			}
		}
	}
}

func TestNumbersThatMayNotBe(t *testing.T) {
	for text, at := range map[string]int{
		`[\x{110000}]`:               1,
		`[\x{FFFFFF}]`:               1,
		`a [\x{110000}]`:             3,
		`[a\x{110000}]`:              2,
		`[a-c\x{110000}-\x{110000}]`: 4,
		`[\x{110000}a]`:              1,
		`[\x{110000}-a]`:             1,
		`[a-\x{110000}]`:             1,
		`[éa-\x{110000}]`:            3,
		`[\x{110001}-\x{110000}]`:    1,
		`[\x{110000}-\x{110001}]`:    1,
		`[c-a]`:                      1,
		`[b-a]`:                      1,
		`[é-a]`:                      1,
		`[a-cz-x]`:                   4,
		`[\]-\[]`:                    1,
		`[a\\-\[]`:                   2,
		`[\x{1}-\x{0}]`:              1,
		`[\x{10FFFF}-\x{10FFFE}]`:    1,
		`= [a] [c-a]`:                7,

		// The entry is read, whatever stands behind it.
		`[c-a`:                  1,
		"[c-a\xFF":              1,
		"[c-a\n]":               1,
		`[c-a-]`:                1,
		`[c-a\q]`:               1,
		`[c-a[`:                 1,
		`[\x{110000}`:           1,
		"[\\x{110000}\xFF":      1,
		`[\x{110000}\x{G}]`:     1,
		`[\x{110000}[]`:         1,
		`[c-a\x{110000}-\x{G}]`: 1,
		`[c-a] A`:               1,
	} {
		fault(t, text, at, api.ErrArg)
	}
}

// TestLettersComeFirst is of entries whose numbers may not be, with something wrong in one of their letters.
func TestLettersComeFirst(t *testing.T) {
	for text, want := range map[string]struct {
		at int
		e  api.Errno
	}{
		`[\x{110000`:            {10, api.ErrEnd},
		`[\x{110000-`:           {10, api.ErrSign},
		`[\x{1100000}]`:         {10, api.ErrSign},
		`[\x{FFFFFFF}]`:         {10, api.ErrSign},
		`[\x{110000]`:           {10, api.ErrSign},
		"[\\x{110000\xFF}]":     {10, api.ErrSign},
		`[\x{110000}-`:          {12, api.ErrEnd},
		`[\x{110000}-]`:         {12, api.ErrSign},
		`[\x{110000}--]`:        {12, api.ErrSign},
		"[\\x{110000}-\xFF]":    {12, api.ErrSign},
		`[\x{110000}-[]`:        {12, api.ErrSign},
		`[\x{110000}-\`:         {13, api.ErrEnd},
		`[\x{110000}-\a]`:       {13, api.ErrSign},
		`[\x{110000}-\x{4G}]`:   {16, api.ErrSign},
		`[\x{110000}-\x{}]`:     {15, api.ErrSign},
		`[c-\x{0`:               {7, api.ErrEnd},
		`[c-\x{0]`:              {7, api.ErrSign},
		`[c-\x{1100000}]`:       {12, api.ErrSign},
		`[a-cd-\x{110000`:       {15, api.ErrEnd},
		`[\x{4G}-\x{110000}]`:   {5, api.ErrSign},
		`[\q-\x{110000}c-a]`:    {2, api.ErrSign},
		`[\x{4G}\x{110000}c-a]`: {5, api.ErrSign},
	} {
		fault(t, text, want.at, want.e)
	}
}

func TestSignsThatMayNotStand(t *testing.T) {
	for text, at := range map[string]int{
		"a A": 2, "1a": 0, "_": 0, "]": 0, "a]": 1, "[a]]": 3, `\`: 0, "{": 0, "a = 'b'": 4, "a,b": 1, "\x00": 0, "\x7F": 0, "\v": 0, "\f": 0, "é": 0, "a é": 2, "\uFEFFa": 0, "\u00A0": 0, "\uFFFD": 0,
		"[-]": 1, "[-a]": 1, "[a-]": 3, "[a--]": 3, "[a-b-c]": 4, "[a-b-]": 4, "[a[": 2, "[[]": 1, "[a-[": 3, "[\n": 1, "[a\t]": 2, "[a-\r]": 3, "[\x1F]": 1, "[\x00]": 1,
		`[\a]`: 2, `[\n]`: 2, `[\X{41}]`: 2, `[\ ]`: 2, `[\{]`: 2, `[a-\^]`: 4,
		`[\x41]`: 3, `[\x]`: 3, `[\x-]`: 3, `[\x\]`: 3, `[\x{}]`: 4, `[\x{G}]`: 4, `[\x{4G}]`: 5, `[\x{a}]`: 4, `[\x{4a}]`: 5, `[\x{-1}]`: 4, `[\x{+1}]`: 4, `[\x{1_0}]`: 5, `[\x{ 1}]`: 4, `[\x{1 }]`: 5, `[\x{1]`: 5, `[\x{0x1}]`: 5, `[\x{0000041}]`: 10,
	} {
		fault(t, text, at, api.ErrSign)
	}
}

// TestNoCodePoints is of bytes that are none, wherever they stand: also where any other sign may.
func TestNoCodePoints(t *testing.T) {
	for _, bad := range []string{"\xFF", "\x80", "\xC3", "\xC0\x80", "\xED\xA0\x80", "\xE0\xB8", "\xF4\x90\x80\x80", "\xF0\x9F\x98"} {
		for _, ahead := range []string{
			"", " ", "\n", "a", "a ", "a_1", "=", "[", "[a", "[a-", "[a-c", `[\`, `[\x`, `[\x{`, `[\x{4`, `[\x{123456`, `[\x{41}`, "[]", "[a]", "#", "# a", "# é\n", "# a\n# b",
		} {
			fault(t, ahead+bad, len(ahead), api.ErrSign)
			fault(t, ahead+bad+"\n", len(ahead), api.ErrSign)
			fault(t, ahead+bad+"a-]", len(ahead), api.ErrSign)
		}
	}
}

func TestFull(t *testing.T) {
	const most = 65536
	blank := strings.Repeat(" ", most)
	long := strings.Repeat("a", most)
	tokens(t, blank, end(most))
	tokens(t, long, name(0, long), end(most))
	tokens(t, "#"+long[1:], end(most))
	tokens(t, "["+long[2:]+"]", set(0, 'a', 'a'), end(most))
	tokens(t, blank[1:]+"=", sign(most-1, "="), end(most))
	fault(t, "["+long[1:], most, api.ErrEnd)
	fault(t, blank[1:]+"A", most-1, api.ErrSign)
	fault(t, blank[5:]+"[b-a]", most-4, api.ErrArg)
	fault(t, blank[1:]+"\xFF", most-1, api.ErrSign)
	for _, s := range []string{" " + blank, long + "a", "A" + blank, "\xFF" + blank, "[" + long, "#" + long, "[b-a]" + blank, blank + blank, blank[1:] + "é"} {
		fault(t, s, 0, api.ErrFull)
	}

	want := []api.Token{}
	for i := range most {
		want = append(want, sign(i, ";"))
	}
	tokens(t, strings.Repeat(";", most), append(want, end(most))...)
}

func held(t *testing.T, text string) { hold(t, text, byGrammar([]byte(text))) }

// all hands out all texts of at most so many of some pieces.
func all(pieces []string, most int, use func(string)) {
	var longer func(s string, more int)
	longer = func(s string, more int) {
		use(s)
		if more > 0 {
			for _, p := range pieces {
				longer(s+p, more-1)
			}
		}
	}
	longer("", most)
}

func TestAllShortTexts(t *testing.T) {
	all([]string{"[", "]", "-", `\`, "x", "{", "}", "4", "F", "a", "_", "#", "\n", " ", "=", "\x1F", "é", "\xFF"}, 4, func(s string) { held(t, s) })
}

func TestAllShortSets(t *testing.T) {
	all([]string{"[", "]", "-", `\`, "x", "{", "}", "4", "\xFF"}, 5, func(s string) { held(t, "["+s) })
}

func TestAllSetsOfPieces(t *testing.T) {
	all([]string{"]", "-", "b", "a", `\]`, `\x{`, "110000", "10FFFF", "61", "}"}, 5, func(s string) { held(t, "["+s) })
}

// parts are what rule texts are made of, and some of what they are not.
func parts() []string {
	return []string{
		"a", "z", "set", "break", "x_1", "B", "0", "_", "=", ";", "/", "|", "*", "+", "?", "(", ")", ".", "~", "&", "-", "-", "-",
		" ", "\t", "\r", "\n", "\n", "# a", "#\n", "[", "[", "]", "]", "[a-c]", "[]", `\`, `\[`, `\]`, `\-`, `\\`, `\x{`, `\x{41}`, `\x{0}`, `\x{10FFFF}`, `\x{110000}`, "x", "{", "}",
		"1", "F", "G", "12345", "é", "ก", "\U0001F600", "\uFFFD", "\x00", "\x1F", "\x7F", "\xFF", "\xE0\xB8", ",",
	}
}

func TestTextsByLot(t *testing.T) {
	lot := rand.New(rand.NewSource(1))
	l := parts()
	for range 150000 {
		var s strings.Builder
		if lot.Intn(2) == 0 {
			s.WriteByte('[')
		}
		for range lot.Intn(12) {
			s.WriteString(l[lot.Intn(len(l))])
		}
		held(t, s.String())
	}
}

// TestToldIsTheCallers writes over what was handed in, and over what was told (R3).
func TestToldIsTheCallers(t *testing.T) {
	b := []byte("ab = [a-cx] [a-cx];")
	want := []api.Token{name(0, "ab"), sign(3, "="), set(5, 'a', 'c', 'x', 'x'), set(12, 'a', 'c', 'x', 'x'), sign(18, ";"), end(19)}
	l, _, _ := lex.Tokens(b)
	for i := range b {
		b[i] = '!'
	}
	if !slices.EqualFunc(l, want, same) {
		t.Fatalf("the tokens hang on what was handed in: %v", l)
	}
	for i := range l[2].Set {
		l[2].Set[i] = api.Range{Low: -1, High: -1}
	}
	l[2].Set = append(l[2].Set, list(7, 7)...)
	if !slices.Equal(l[3].Set, want[3].Set) {
		t.Fatalf("two sets share their ranges: %v", l[3].Set)
	}
	tokens(t, "ab = [a-cx] [a-cx];", want...)
}

// P7.2

func TestSet(t *testing.T) {
	for _, c := range []struct {
		l    []api.Range
		want string
	}{
		{nil, "[]"},
		{[]api.Range{}, "[]"},
		{list(0, 0), `[\x{0}]`},
		{list(0, 1), `[\x{0}-\x{1}]`},
		{list(9, 10), `[\x{9}-\x{A}]`},
		{list(0xF, 0x10), `[\x{F}-\x{10}]`},
		{list('a', 'c'), `[\x{61}-\x{63}]`},
		{list('a', 'a'), `[\x{61}]`},
		{list('-', '-', '[', ']'), `[\x{2D}\x{5B}-\x{5D}]`},
		{list('a', 'c', top, top), `[\x{61}-\x{63}\x{10FFFF}]`},
		{list(0, top), `[\x{0}-\x{10FFFF}]`},
		{list(top-1, top), `[\x{10FFFE}-\x{10FFFF}]`},
		{list(0, 0, 2, 2, 4, 9), `[\x{0}\x{2}\x{4}-\x{9}]`},
		{list(0xD800, 0xDFFF), `[\x{D800}-\x{DFFF}]`},
		{list(0xABCDE, 0xABCDF), `[\x{ABCDE}-\x{ABCDF}]`},
		{list(0x100, 0x1000), `[\x{100}-\x{1000}]`},

		// Ranges that are no set are written as they stand.
		{list(5, 7, 1, 3), `[\x{5}-\x{7}\x{1}-\x{3}]`},
		{list(1, 3, 4, 4, 4, 4), `[\x{1}-\x{3}\x{4}\x{4}]`},
		{list(7, 5), `[\x{7}-\x{5}]`},
		{list(0x110000, 0x1234567), `[\x{110000}-\x{1234567}]`},
		{list(math.MaxInt, math.MaxInt), `[\x{7FFFFFFFFFFFFFFF}]`},
	} {
		kept := slices.Clone(c.l)
		if got := lex.Set(c.l); got != c.want {
			t.Errorf("Set(%v): %s; want %s", c.l, got, c.want)
		}
		if !slices.Equal(c.l, kept) {
			t.Errorf("Set changed what it was handed: %v", c.l)
		}
	}
	for _, l := range [][]api.Range{list(-1, 0), list(-1, -1), list(math.MinInt, math.MaxInt), list(math.MaxInt, math.MinInt)} {
		if s := lex.Set(l); !strings.HasPrefix(s, "[") || !strings.HasSuffix(s, "]") {
			t.Errorf("Set(%v): %s", l, s)
		}
	}
}

func TestName(t *testing.T) {
	for _, s := range []string{"a", "z", "ab", "a0", "z9", "a_", "a_1", "m__", "set", "break", "keep", "x", strings.Repeat("a", 65536), strings.Repeat("a", 100000)} {
		if !lex.Name(s) {
			t.Errorf("Name(%.20q) is false", s)
		}
	}
	for _, s := range []string{
		"", " ", "1a", "1", "_", "_a", "A", "Ab", "aB", "a b", " a", "a ", "a\n", "\na", "a#", "a # b", "#a", "a-b", "-", "[a]", "a;", "a=", "`", "{", "a`", "a{", "a/", "a:", "a@", "a^",
		"é", "aé", "éa", "a\u0301", "a\xFF", "\xFFa", "\xFF", "a\x00", "\x00", "a\uFFFD", "\u0430", "\uFF41", "a\U00010061", "\u0161", "aı",
	} {
		if lex.Name(s) {
			t.Errorf("Name(%+q) is true", s)
		}
	}
}

// TestNamesAreTokens holds Name against what Tokens tells of the same text.
func TestNamesAreTokens(t *testing.T) {
	check := func(s string) {
		l, _, e := lex.Tokens([]byte(s))
		want := e == api.OK && len(l) == 2 && l[0].Kind == api.TokName && l[0].Text == s
		if got := lex.Name(s); got != want {
			t.Fatalf("Name(%+q): %v; Tokens tells %v", s, got, l)
		}
	}
	for a := range 256 {
		for b := range 256 {
			check(string([]byte{byte(a), byte(b)}))
		}
	}
	for r := range 0x20000 {
		check(string(rune(r)))
		check("a" + string(rune(r)))
	}
	all([]string{"a", "z", "0", "_", "A", " ", "#", "\n", "-"}, 4, check)
}

// P7.3

func comesBack(t *testing.T, l []api.Range) {
	t.Helper()
	s := lex.Set(l)
	one := api.Token{Kind: api.TokSet, Set: l}
	tokens(t, s, one, end(len(s)))
	one.At = 1
	tokens(t, " "+s+";", one, sign(len(s)+1, ";"), end(len(s)+2))
}

func TestSetsComeBack(t *testing.T) {
	for _, l := range [][]api.Range{nil, list(0, 0), list(top, top), list(0, top), list(0, 0, top, top), list('-', '-', '[', ']'), list(0xD800, 0xDFFF), list(0, 0x1F)} {
		comesBack(t, l)
	}
	for r := range top + 1 {
		if r < 0x3000 || r%97 == 0 {
			comesBack(t, list(r, r))
			comesBack(t, list(r, min(r+r%5, top)))
		}
	}
	lot := rand.New(rand.NewSource(2))
	for range 3000 {
		var l []api.Range
		for range lot.Intn(40) {
			low := lot.Intn(1 << (1 + lot.Intn(20)))
			l = append(l, api.Range{Low: low, High: min(top, low+lot.Intn(1<<lot.Intn(18)))})
		}
		made, e := ranges.Make(l)
		if e != api.OK {
			t.Fatal(e)
		}
		comesBack(t, made)
	}
}

// TestLongestSet is a set whose text has just as many bytes as there may be.
func TestLongestSet(t *testing.T) {
	l := list(0, 0)
	for i := range 7281 {
		r := 0x10000 + 2*i
		l = append(l, api.Range{Low: r, High: r})
	}
	s := lex.Set(l)
	if len(s) != 65536 {
		t.Fatalf("%d bytes", len(s))
	}
	tokens(t, s, api.Token{Kind: api.TokSet, Set: l}, end(65536))
	fault(t, s+" ", 0, api.ErrFull)
}

// printed writes a token as its text.
func printed(x api.Token) string {
	if x.Kind == api.TokSet {
		return lex.Set(x.Set)
	}
	return x.Text
}

// TestBlanksMore puts blanks between the tokens of texts, and looks whether nothing but their places turns.
func TestBlanksMore(t *testing.T) {
	lot := rand.New(rand.NewSource(3))
	blanks := []string{" ", "\t", "\r", "\n", "\r\n", "#\n", "# [a-\n", "#é \\ \x00\r#\n", "  ", "\n\n"}
	words := []string{"a", "set", "x_1", "=", ";", "/", "-", "~", "(", "[]", "[a]", "[a-c]", `[\]]`, "[ #]", `[\x{0}-\x{10FFFF}é]`}
	for range 20000 {
		var dense, loose strings.Builder
		var places []int
		nameAhead := false
		for range lot.Intn(12) {
			w := words[lot.Intn(len(words))]
			if nameAhead && lex.Name(w) {
				dense.WriteByte(' ')
				loose.WriteByte(' ')
			}
			nameAhead = lex.Name(w)
			for range lot.Intn(3) {
				loose.WriteString(blanks[lot.Intn(len(blanks))])
			}
			places = append(places, loose.Len())
			dense.WriteString(w)
			loose.WriteString(w)
		}
		if lot.Intn(2) == 0 {
			loose.WriteString(" # at the end")
		}
		want, _, e := lex.Tokens([]byte(dense.String()))
		if e != api.OK || len(want) != len(places)+1 {
			t.Fatalf("Tokens(%+q): %v, %d", dense.String(), want, e)
		}
		for i, at := range append(places, loose.Len()) {
			want[i].At = at
		}
		tokens(t, loose.String(), want...)
	}
}

// TestPrintedComesBack prints the tokens of texts, and parts that again (P2 of DOC.md).
func TestPrintedComesBack(t *testing.T) {
	lot := rand.New(rand.NewSource(4))
	l := parts()
	told := 0
	for range 100000 {
		var s strings.Builder
		for range lot.Intn(6) {
			s.WriteString(l[lot.Intn(len(l))])
		}
		first, _, e := lex.Tokens([]byte(s.String()))
		if e != api.OK {
			continue
		}
		told++
		var again strings.Builder
		for i := range first {
			first[i].At = again.Len()
			again.WriteString(printed(first[i]))
			if first[i].Kind != api.TokEnd {
				again.WriteByte('\n')
			}
		}
		tokens(t, again.String(), first...)
	}
	if told < 10000 {
		t.Errorf("only %d texts were told", told)
	}
}

// TestNothingIsKept asks the same thing once more, with others between (R4).
func TestNothingIsKept(t *testing.T) {
	text := []byte("set a = [a-c\\x{41}]; # note\n")
	first, _, _ := lex.Tokens(text)
	lex.Tokens([]byte("[c-a]"))
	lex.Tokens([]byte("[a"))
	second, _, _ := lex.Tokens(text)
	if !reflect.DeepEqual(first, second) {
		t.Errorf("%v, then %v", first, second)
	}
}

func FuzzTokens(f *testing.F) {
	for _, s := range parts() {
		f.Add([]byte(s))
		f.Add([]byte("[" + s))
	}
	f.Add([]byte("set a = [a-c\\]\\x{41}-\\x{10FFFF}]; # note\n/"))
	f.Fuzz(func(t *testing.T, b []byte) { held(t, string(b)) })
}
