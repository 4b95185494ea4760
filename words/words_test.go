package words_test

import (
	"fmt"
	"math"
	"math/rand"
	"slices"
	"sync"
	"testing"

	"scansion/api"
	"scansion/ucd"
	"scansion/words"
)

// signs is one code point of each kind, in the kinds' order, and a picture.
var signs = []int{'!', '\r', '\n', 0x85, 0x301, 0x200D, 0xAD, 0x1F1E6, 0x30A2, 0x5D0, 'a', '\'', '"', '.', ':', ',', '3', '_', ' ', 0x1F600}

// marks is one code point of each kind of marks.
var marks = []int{0x301, 0x200D, 0xAD}

// texts hands out all texts of at most so many signs.
func texts(signs []int, most int, use func([]int)) {
	var longer func(l []int)
	longer = func(l []int) {
		use(l)
		if len(l) == most {
			return
		}
		for _, r := range signs {
			longer(append(l, r))
		}
	}
	longer(make([]int, 0, most))
}

// drawn is a text of signs that are drawn by lot.
func drawn(lot *rand.Rand, signs []int, most int) []int {
	l := make([]int, lot.Intn(most+1))
	for i := range l {
		l[i] = signs[lot.Intn(len(signs))]
	}
	return l
}

func runes(s string) []int {
	var l []int
	for _, r := range s {
		l = append(l, int(r))
	}
	return l
}

func hex(l []int) string { return fmt.Sprintf("%x", l) }

// hold holds All and Break of a text against the places at which words end.
func hold(t *testing.T, d *ucd.Data, l, want []int) {
	t.Helper()
	if got := words.All(d, l); !slices.Equal(got, want) {
		t.Fatalf("All(%s): %v, want %v", hex(l), got, want)
	}
	for i := range len(l) + 1 {
		if got := words.Break(d, l, i); got != slices.Contains(want, i) {
			t.Fatalf("Break(%s, %d): %v", hex(l), i, got)
		}
	}
}

// holdHeads holds Head of a text against the rule for heads.
func holdHeads(t *testing.T, d *ucd.Data, l []int) {
	t.Helper()
	for i, want := range headsOf(d, l) {
		if got := words.Head(d, l, i); got != want {
			t.Fatalf("Head(%s, %d): %v", hex(l), i, got)
		}
	}
}

// P6.1

func TestExamples(t *testing.T) {
	d := ucd.New()
	hold(t, d, runes("can't 3.5"), []int{0, 5, 6, 9})
	hold(t, d, runes("a, b"), []int{0, 1, 2, 3, 4})
}

// TestRules: each rule where it says something, and where one behind it does.
func TestRules(t *testing.T) {
	d := ucd.New()
	for _, x := range []struct {
		rule int
		text string
		want []int
	}{
		{1, "", []int{0}},
		{1, "a", []int{0, 1}},
		{1, "\u0301", []int{0, 1}},
		{1, "\u200d", []int{0, 1}},
		{1, "\u00ad", []int{0, 1}},
		{1, "\n", []int{0, 1}},
		{1, "a\u0301", []int{0, 2}},
		{1, "a'", []int{0, 1, 2}},

		{2, "\r\n", []int{0, 2}},
		{2, "\n\r", []int{0, 1, 2}},
		{2, "\r\r\n\n", []int{0, 1, 3, 4}},
		{2, "\r\u0301\n", []int{0, 1, 2, 3}},
		{2, "\u0085\n", []int{0, 1, 2}},
		{2, "\r\u0085", []int{0, 1, 2}},

		{3, "\r\u0301", []int{0, 1, 2}},
		{3, "\n\u200d", []int{0, 1, 2}},
		{3, "\u000b\u00ad", []int{0, 1, 2}},
		{3, "\u2028\u0301\u0302", []int{0, 1, 3}},
		{3, "a\nb", []int{0, 1, 2, 3}},
		{3, "a\u0301\rb", []int{0, 2, 3, 4}},
		{3, " \u0085 ", []int{0, 1, 2, 3}},
		{3, "a'\nb", []int{0, 1, 2, 3, 4}},
		{3, "a\n'b", []int{0, 1, 2, 3, 4}},
		{3, "\u200d\n", []int{0, 1, 2}},
		{3, "\n\u0301a", []int{0, 1, 2, 3}},

		{4, "\u200d\U0001f600", []int{0, 2}},
		{4, "a\u200d\U0001f600", []int{0, 3}},
		{4, "a\u0301\u200d\u00a9", []int{0, 4}},
		{4, "\U0001f600\u200d\U0001f600\u200d\u2764", []int{0, 5}},
		{4, "\n\u200d\u2764", []int{0, 1, 3}},
		{4, " \u200d\u2764", []int{0, 3}},
		{4, "\u200d\u0301\u2764", []int{0, 2, 3}},
		{4, "a\u0301\u2764", []int{0, 2, 3}},
		{4, "a\u00ad\u2764", []int{0, 2, 3}},
		{4, "\u200d!", []int{0, 1, 2}},
		{4, "\U0001f600\U0001f600", []int{0, 1, 2}},

		{5, "  ", []int{0, 2}},
		{5, " \u3000\u2000 ", []int{0, 4}},
		{5, " \u0301 ", []int{0, 2, 3}},
		{5, "  \u0301", []int{0, 3}},
		{5, "a  b", []int{0, 1, 3, 4}},
		{5, " \t ", []int{0, 1, 2, 3}},

		{6, "!\u0301\u200d\u00ad", []int{0, 4}},
		{6, " \u0301", []int{0, 2}},
		{6, "\U0001f1e6\u00ad", []int{0, 2}},
		{6, "\u0301\u0301", []int{0, 2}},

		{7, "ab", []int{0, 2}},
		{7, "a\u05d0", []int{0, 2}},
		{7, "\u05d0a\u05d0\u05d1", []int{0, 4}},
		{7, "a\u0301\u200db", []int{0, 4}},
		{7, "\u0301a", []int{0, 1, 2}},
		{7, "\u200da", []int{0, 1, 2}},
		{7, "a!", []int{0, 1, 2}},
		{7, "\uac00\u1100", []int{0, 2}},

		{8, "a:b", []int{0, 3}},
		{8, "a.b", []int{0, 3}},
		{8, "a'b", []int{0, 3}},
		{8, "a\u2019\u05d0", []int{0, 3}},
		{8, "a\u0301.\u0302b", []int{0, 5}},
		{8, "a,b", []int{0, 1, 2, 3}},
		{8, "a\"b", []int{0, 1, 2, 3}},
		{8, "a:", []int{0, 1, 2}},
		{8, "a:\u0301", []int{0, 1, 3}},
		{8, "a:1", []int{0, 1, 2, 3}},
		{8, "a..b", []int{0, 1, 2, 3, 4}},
		{8, "a:'b", []int{0, 1, 2, 3, 4}},
		{8, "a.\n", []int{0, 1, 2, 3}},

		{9, "a:b:c", []int{0, 5}},
		{9, "\u05d0.a'\u05d0", []int{0, 5}},
		{9, ":b", []int{0, 1, 2}},
		{9, "'b", []int{0, 1, 2}},
		{9, "1:b", []int{0, 1, 2, 3}},
		{9, "\u0301.b", []int{0, 1, 2, 3}},
		{9, "a:\u0301\u00adb", []int{0, 5}},
		{9, " .b", []int{0, 1, 2, 3}},

		{10, "\u05d0'", []int{0, 2}},
		{10, "\u05d0\u0301'\u0301", []int{0, 4}},
		{10, "\u05d0''", []int{0, 2, 3}},
		{10, "\u05d0'1", []int{0, 2, 3}},
		{10, "\u05d0\u2019", []int{0, 1, 2}},
		{10, "\u05d0.", []int{0, 1, 2}},
		{10, "'\u05d0", []int{0, 1, 2}},

		{11, "\u05d0\"\u05d0", []int{0, 3}},
		{11, "\u05d0\u0301\"\u200d\u0301\u05d0", []int{0, 6}},
		{11, "\u05d0\"", []int{0, 1, 2}},
		{11, "\u05d0\"a", []int{0, 1, 2, 3}},
		{11, "a\"\u05d0", []int{0, 1, 2, 3}},
		{11, "\u05d0\"\"\u05d0", []int{0, 1, 2, 3, 4}},

		{12, "\u05d0\"\u05d0\"\u05d0", []int{0, 5}},
		{12, "\"\u05d0", []int{0, 1, 2}},
		{12, "1\"\u05d0", []int{0, 1, 2, 3}},

		{13, "12", []int{0, 2}},
		{13, "1a2\u05d03", []int{0, 5}},
		{13, "a1", []int{0, 2}},
		{13, "1a", []int{0, 2}},
		{13, "\u05d01", []int{0, 2}},
		{13, "1\u05d0", []int{0, 2}},
		{13, "1\u00ad2\u0301a", []int{0, 5}},
		{13, "1\u30a2", []int{0, 1, 2}},
		{13, "\u03011", []int{0, 1, 2}},

		{14, "1,2,3", []int{0, 5}},
		{14, ",2", []int{0, 1, 2}},
		{14, "a,2", []int{0, 1, 2, 3}},
		{14, "a.2", []int{0, 1, 2, 3}},
		{14, "\u0301,2", []int{0, 1, 2, 3}},

		{15, "1,2", []int{0, 3}},
		{15, "1.2", []int{0, 3}},
		{15, "1'2", []int{0, 3}},
		{15, "1;\u0661", []int{0, 3}},
		{15, "1\u0301,\u00ad\u200d2", []int{0, 6}},
		{15, "1:2", []int{0, 1, 2, 3}},
		{15, "1\"2", []int{0, 1, 2, 3}},
		{15, "1,", []int{0, 1, 2}},
		{15, "1,a", []int{0, 1, 2, 3}},
		{15, "1.a", []int{0, 1, 2, 3}},
		{15, "1,,2", []int{0, 1, 2, 3, 4}},
		{15, "1,\n", []int{0, 1, 2, 3}},

		{16, "\u30a2\u30a4", []int{0, 2}},
		{16, "\u30a2\u3099\u30a4\u30fc", []int{0, 4}},
		{16, "\u30a2a", []int{0, 1, 2}},
		{16, "a\u30a2", []int{0, 1, 2}},
		{16, "\u30a2.\u30a2", []int{0, 1, 2, 3}},

		{17, "a_", []int{0, 2}},
		{17, "\u05d0_", []int{0, 2}},
		{17, "1_", []int{0, 2}},
		{17, "\u30a2_", []int{0, 2}},
		{17, "__", []int{0, 2}},
		{17, "a\u0301_\u0301_", []int{0, 5}},
		{17, "!_", []int{0, 1, 2}},
		{17, ".__.", []int{0, 1, 3, 4}},
		{17, "\u0301_", []int{0, 1, 2}},
		{17, "\U0001f1e6_", []int{0, 1, 2}},

		{18, "_a", []int{0, 2}},
		{18, "_\u05d0", []int{0, 2}},
		{18, "_1", []int{0, 2}},
		{18, "_\u30a2", []int{0, 2}},
		{18, "_\u00ada", []int{0, 3}},
		{18, "_!", []int{0, 1, 2}},
		{18, "_\U0001f1e6", []int{0, 1, 2}},
		{18, "a_1_\u30a2__\u05d0", []int{0, 8}},
		{18, "_ a", []int{0, 1, 2, 3}},

		{19, "\U0001f1e6\U0001f1e7", []int{0, 2}},
		{19, "\U0001f1e6\U0001f1e7\U0001f1e8", []int{0, 2, 3}},
		{19, "\U0001f1e6\U0001f1e7\U0001f1e8\U0001f1e9", []int{0, 2, 4}},
		{19, "\U0001f1e6\u0301\U0001f1e7\u200d\U0001f1e8\u00ad\u00ad\U0001f1e9\u0301\U0001f1ea", []int{0, 4, 9, 10}},
		{19, "a\U0001f1e6\U0001f1e7\U0001f1e8", []int{0, 1, 3, 4}},
		{19, "\u0301\U0001f1e6\U0001f1e7\U0001f1e8", []int{0, 1, 3, 4}},
		{19, "\n\u0301\U0001f1e6\U0001f1e7\U0001f1e8", []int{0, 1, 2, 4, 5}},
		{19, "\U0001f1e6a\U0001f1e7\U0001f1e8", []int{0, 1, 2, 4}},
		{19, "\U0001f1e6\n\U0001f1e7\U0001f1e8", []int{0, 1, 2, 4}},
		{19, "\U0001f1e6a\u0301\U0001f1e7\U0001f1e8", []int{0, 1, 3, 5}},

		{20, "!?", []int{0, 1, 2}},
		{20, "\u4e00\u4e8c", []int{0, 1, 2}},
		{20, "a b", []int{0, 1, 2, 3}},
		{20, "\u0e01\u0e02", []int{0, 1, 2}},
		{20, ".,':\"", []int{0, 1, 2, 3, 4, 5}},
	} {
		l := runes(x.text)
		t.Run(fmt.Sprintf("rule %d of %s", x.rule, hex(l)), func(t *testing.T) { hold(t, d, l, x.want) })
	}
}

// TestTwo: whether a word ends between two signs, of each kind and each kind.
func TestTwo(t *testing.T) {
	// The rows of signs ahead; 1 where a word ends ahead of Other, CR, LF, Newline, Extend, ZWJ, Format, RegionalIndicator, Katakana, HebrewLetter, ALetter, SingleQuote, DoubleQuote, MidNumLet, MidLetter, MidNum, Numeric, ExtendNumLet, WSegSpace, a picture.
	rows := []string{
		"11110001111111111111", // Other
		"11011111111111111111", // CR
		"11111111111111111111", // LF
		"11111111111111111111", // Newline
		"11110001111111111111", // Extend
		"11110001111111111110", // ZWJ
		"11110001111111111111", // Format
		"11110000111111111111", // RegionalIndicator
		"11110001011111111011", // Katakana
		"11110001100011110011", // HebrewLetter
		"11110001100111110011", // ALetter
		"11110001111111111111", // SingleQuote
		"11110001111111111111", // DoubleQuote
		"11110001111111111111", // MidNumLet
		"11110001111111111111", // MidLetter
		"11110001111111111111", // MidNum
		"11110001100111110011", // Numeric
		"11110001000111110011", // ExtendNumLet
		"11110001111111111101", // WSegSpace
		"11110001111111111111", // a picture
	}
	d := ucd.New()
	for i, ahead := range signs {
		for j, behind := range signs {
			l := []int{ahead, behind}
			if got := words.Break(d, l, 1); got != (rows[i][j] == '1') {
				t.Errorf("Break(%s, 1): %v", hex(l), got)
			}
		}
	}
}

// TestAllShort: all short texts of all kinds, by the rules and by lists of heads.
func TestAllShort(t *testing.T) {
	d := ucd.New()
	texts(signs, 3, func(l []int) {
		want := allByRules(d, l)
		if other := allByHeads(d, l); !slices.Equal(other, want) {
			t.Fatalf("%s: by rules %v, by heads %v", hex(l), want, other)
		}
		hold(t, d, l, want)
		holdHeads(t, d, l)
	})
	texts(signs, 4, func(l []int) { hold(t, d, l, allByHeads(d, l)) })
}

// TestLookFarther: all texts of some length, of the kinds for which rules look farther than one sign.
func TestLookFarther(t *testing.T) {
	d := ucd.New()
	for _, x := range []struct {
		signs []int
		most  int
	}{
		{[]int{'a', 0x5D0, '\'', '"', '.', 0x301}, 6},
		{[]int{'3', 'a', ',', '.', ':', 0x301}, 6},
		{[]int{0x1F1E6, 0x301, 'a'}, 8},
		{[]int{0x1F1E6, 0x200D, '\n'}, 8},
		{[]int{0x1F1E6, 0x1F600, 0x200D, 0xAD}, 6},
		{[]int{' ', 0x301, 0x200D, 0x1F600, '\r', '\n'}, 5},
		{[]int{'_', 'a', '3', 0x30A2, 0xAD, '!'}, 5},
	} {
		texts(x.signs, x.most, func(l []int) {
			hold(t, d, l, allByHeads(d, l))
			holdHeads(t, d, l)
		})
	}
}

func TestDrawn(t *testing.T) {
	d := ucd.New()
	lot := rand.New(rand.NewSource(6))
	more := slices.Concat(signs, []int{0x1F1FF, 0x1F1E6, 0xFE0F, 0x2764, 0x200D, 0x5D1, 'b', 'c', '4', 0x2019, 0x10FFFF, 0xD800, -1, 0x110000})
	for range 3000 {
		l := drawn(lot, more, 30)
		hold(t, d, l, allByRules(d, l))
		holdHeads(t, d, l)
	}
}

func TestHead(t *testing.T) {
	d := ucd.New()
	for _, x := range []struct {
		text string
		want string // one letter a sign: h for a head
	}{
		{"ab", "hh"},
		{"a\u0301", "h-"},
		{"\u0301", "h"},
		{"\u200d", "h"},
		{"\u00ad", "h"},
		{"\u0301\u0301", "h-"},
		{"\u200d\u00ad", "h-"},
		{"a\u0301\u200d\u00adb\u0301", "h---h-"},
		{"\n\u0301\u0301", "hh-"},
		{"\r\u200d\u0301", "hh-"},
		{"\u0085\u00ada", "hhh"},
		{"\r\n\u0301", "hhh"},
		{" \u0301 ", "h-h"},
		{"\u0301\n\u0301", "hhh"},
		{"\t\u0301", "h-"}, // the tab is no line's end
		{"\U0001f600\u200d\U0001f600", "h-h"},
		{"\U0001f1e6\u0301\U0001f1e7", "h-h"},
	} {
		l := runes(x.text)
		for i := range l {
			if got := words.Head(d, l, i); got != (x.want[i] == 'h') {
				t.Errorf("Head(%s, %d): %v", hex(l), i, got)
			}
		}
	}
}

// TestNoPlace: what is no place of a text, and no sign of it.
func TestNoPlace(t *testing.T) {
	d := ucd.New()
	for _, l := range [][]int{nil, {}, {'a'}, {'a', 0x301}, {'\n'}, {0x1F1E6, 0x1F1E7, 0x1F1E8}} {
		for _, i := range []int{math.MinInt, math.MinInt32, -2, -1, len(l) + 1, len(l) + 2, math.MaxInt32, math.MaxInt} {
			if words.Break(d, l, i) {
				t.Errorf("Break(%s, %d)", hex(l), i)
			}
			if words.Head(d, l, i) {
				t.Errorf("Head(%s, %d)", hex(l), i)
			}
		}
		if words.Head(d, l, len(l)) {
			t.Errorf("Head(%s) at the end", hex(l))
		}
	}
}

// TestSpare: signs beyond a text's length, in the same memory, are none of its own.
func TestSpare(t *testing.T) {
	d := ucd.New()
	l := []int{'a', '.', 'b', 'c'}
	hold(t, d, l[:2], []int{0, 1, 2})
	hold(t, d, l[1:3], []int{0, 1, 2})
	if words.Break(d, l[:1], 2) || words.Head(d, l[:1], 1) {
		t.Error("beyond the end")
	}
}

// TestNoCodePoints: numbers that are no code points are of the kind Other, and no pictures.
func TestNoCodePoints(t *testing.T) {
	d := ucd.New()
	for _, r := range []int{-1, math.MinInt, math.MaxInt, 0x110000, 0x1F600 + 1<<32, 0xD800, 0xDFFF, -0xD, 0x301 - 1<<32, 'a' + 1<<32} {
		hold(t, d, []int{r}, []int{0, 1})
		hold(t, d, []int{r, r}, []int{0, 1, 2})
		hold(t, d, []int{'a', r, 0x301, r, 'a'}, []int{0, 1, 3, 4, 5})
		hold(t, d, []int{'a', '.', r, '.', 'a'}, []int{0, 1, 2, 3, 4, 5})
		hold(t, d, []int{0x200D, r, '\n', r}, []int{0, 1, 2, 3, 4})
		hold(t, d, []int{0x1F1E6, r, 0x1F1E6, 0x1F1E6}, []int{0, 1, 2, 4})
		l := []int{r, r, 0x301, r}
		for i, want := range []bool{true, true, false, true} {
			if got := words.Head(d, l, i); got != want {
				t.Errorf("Head(%s, %d): %v", hex(l), i, got)
			}
		}
	}
}

// TestLoaded: data with values that the tables don't name.
func TestLoaded(t *testing.T) {
	d := loaded(t, []api.Prop{
		{Low: 'A', High: 'A', Value: 10},
		{Low: 'B', High: 'B', Value: 255},
		{Low: 'C', High: 'C', Value: 19},
		{Low: 'E', High: 'E', Value: 4},
		{Low: 'J', High: 'J', Value: 5},
		{Low: 'N', High: 'N', Value: 3},
		{Low: 'Q', High: 'Q', Value: 13},
		{Low: 'R', High: 'R', Value: 7},
		{Low: 'W', High: 'W', Value: 18},
		{Low: 'a', High: 'a', Value: 10},
		{Low: 'e', High: 'e', Value: 4},
		{Low: 'j', High: 'j', Value: 5},
		{Low: 'n', High: 'n', Value: 3},
		{Low: 'r', High: 'r', Value: 7},
		{Low: 'w', High: 'w', Value: 18},
	}, []api.Prop{
		{Low: 'P', High: 'P', Value: 200},
		{Low: 'a', High: 'w', Value: 2},
	})
	for _, x := range []struct {
		text string
		want []int
	}{
		// Kinds beyond those that are named are like Other: heads that no rule names.
		{"BC", []int{0, 1, 2}},
		{"CB", []int{0, 1, 2}},
		{"BB", []int{0, 1, 2}},
		{"CC", []int{0, 1, 2}},
		{"BECE", []int{0, 2, 4}},
		{"ABA", []int{0, 1, 2, 3}},
		{"AQCA", []int{0, 1, 2, 3, 4}},
		{"ABQA", []int{0, 1, 2, 3, 4}},
		{"RBRR", []int{0, 1, 2, 4}},
		// What the shipped tables say is not looked at.
		{"12", []int{0, 1, 2}},
		{"1\u0301", []int{0, 1, 2}},
		{"\r\n", []int{0, 1, 2}},
		{"J\U0001f600", []int{0, 1, 2}},
		// A picture is one of any value but 0.
		{"JP", []int{0, 2}},
		{"AJPJP", []int{0, 5}},
		// A picture may be of any kind. A line's end stands ahead of its rule; other kinds are kept by their rules as well.
		{"Jn", []int{0, 1, 2}},
		{"JAJn", []int{0, 1, 3, 4}},
		{"nJP", []int{0, 1, 3}},
		{"nP", []int{0, 1, 2}},
		{"Ja", []int{0, 2}},
		{"aQa", []int{0, 3}},
		{"AJaA", []int{0, 4}},
		{"PJa", []int{0, 3}},
		{"WJw", []int{0, 3}},
		{"WEw", []int{0, 2, 3}},
		{"Pe", []int{0, 2}},
		{"Je", []int{0, 2}},
		{"jP", []int{0, 2}},
		{"Pj", []int{0, 2}},
		{"eP", []int{0, 1, 2}},
		{"EeEP", []int{0, 3, 4}},
		// Indicators are counted by heads, though a rule ahead keeps some of them together.
		{"Rr", []int{0, 2}},
		{"rJrr", []int{0, 3, 4}},
		{"rrJrr", []int{0, 5}},
		{"rrJrrr", []int{0, 5, 6}},
		{"rrJrrJrrr", []int{0, 8, 9}},
		{"rrErr", []int{0, 3, 5}},
		{"PJrrr", []int{0, 4, 5}},
	} {
		l := runes(x.text)
		t.Run(x.text, func(t *testing.T) {
			hold(t, d, l, x.want)
			holdHeads(t, d, l)
		})
	}
}

// TestLoadedDrawn: data of which each sign has a value by lot, and is a picture or none by lot.
func TestLoadedDrawn(t *testing.T) {
	lot := rand.New(rand.NewSource(66))
	for range 60 {
		d, own := drawnData(t, lot)
		for range 100 {
			few := drawn(lot, own, 6)
			if len(few) == 0 {
				continue
			}
			l := drawn(lot, few, 15)
			hold(t, d, l, allByRules(d, l))
			holdHeads(t, d, l)
		}
	}
}

// drawnData is data of the signs A to Z, each with a value by lot, some of them pictures; and these signs.
func drawnData(t *testing.T, lot *rand.Rand) (*ucd.Data, []int) {
	var kinds, pictures []api.Prop
	var own []int
	for r := 'A'; r <= 'Z'; r++ {
		own = append(own, int(r))
		value := lot.Intn(20)
		if value == 19 {
			value += lot.Intn(237)
		}
		kinds = append(kinds, api.Prop{Low: int(r), High: int(r), Value: byte(value)})
		if lot.Intn(2) == 0 {
			pictures = append(pictures, api.Prop{Low: int(r), High: int(r), Value: byte(1 + lot.Intn(255))})
		}
	}
	return loaded(t, kinds, pictures), own
}

// TestLong: a long text takes no longer than its length asks for, whatever stands around a place.
func TestLong(t *testing.T) {
	d := ucd.New()
	// Indicators that are pictures are kept together by a rule that counts none, so that a word of them may be as long as the text.
	joined := loaded(t, []api.Prop{{Low: 'J', High: 'J', Value: 5}, {Low: 'r', High: 'r', Value: 7}}, []api.Prop{{Low: 'r', High: 'r', Value: 1}})
	const count = 1 << 20
	repeat := func(l ...int) []int { return slices.Repeat(l, count/len(l)) }
	for _, x := range []struct {
		name   string
		d      *ucd.Data
		text   []int
		places int
	}{
		{"indicators, an even number", d, repeat(0x1F1E6), count/2 + 1},
		{"indicators, an odd number", d, append(repeat(0x1F1E6), 0x1F1E6), count/2 + 2},
		{"indicators with marks", d, repeat(0x1F1E6, 0x301), count/4 + 1},
		{"indicators that are pictures", joined, slices.Repeat([]int{'r', 'r', 'J'}, count/3), 2},
		{"marks behind a letter", d, append(append([]int{'a'}, repeat(0x301)...), 'b'), 2},
		{"marks at the beginning", d, append(repeat(0x301), 'b'), 3},
		{"marks behind a line's end", d, append(append([]int{'\n'}, repeat(0x301)...), 'b'), 4},
		{"marks around a sign between", d, slices.Concat([]int{'a'}, repeat(0x301), []int{'.'}, repeat(0x301), []int{'b'}), 2},
		{"marks, and no next head", d, slices.Concat([]int{'a', '.'}, repeat(0x301)), 3},
		{"signs between", d, repeat('a', '.'), 3},
		{"signs between, alone", d, repeat('.'), count + 1},
		{"letters", d, repeat('a'), 2},
		{"spaces", d, repeat(' '), 2},
		{"lines' ends", d, repeat('\n'), count + 1},
		{"joined pictures", d, repeat(0x1F600, 0x200D), 2},
	} {
		l := x.text
		t.Run(x.name, func(t *testing.T) {
			all := words.All(x.d, l)
			if len(all) != x.places || all[0] != 0 || all[len(all)-1] != len(l) {
				t.Fatalf("%d places, want %d, from 0 to %d", len(all), x.places, len(l))
			}
			for _, i := range []int{0, 1, 2, 3, len(l) / 2, len(l)/2 + 1, len(l) - 2, len(l) - 1, len(l)} {
				_, want := slices.BinarySearch(all, i)
				if got := words.Break(x.d, l, i); got != want {
					t.Errorf("Break at %d: %v", i, got)
				}
			}
		})
	}
}

// TestLongMarks: each place of a long run of marks is told by the signs next to it.
func TestLongMarks(t *testing.T) {
	d := ucd.New()
	l := append([]int{'a'}, slices.Repeat([]int{0x301}, 1<<20)...)
	for i := 1; i < len(l); i++ {
		if words.Break(d, l, i) {
			t.Fatal("Break at", i)
		}
	}
}

// TestOwn: a text stays as it is, and what is told is the caller's own (R3).
func TestOwn(t *testing.T) {
	d := ucd.New()
	l := []int{'a', 0x301, '.', 'b', 0x1F1E6, 0x1F1E7, 0x1F1E8}
	was := slices.Clone(l)
	first := words.All(d, l)
	want := slices.Clone(first)
	clear(first)
	if got := words.All(d, l); !slices.Equal(got, want) {
		t.Errorf("All once more: %v, want %v", got, want)
	}
	for i := range len(l) + 1 {
		words.Break(d, l, i)
		words.Head(d, l, i)
	}
	if !slices.Equal(l, was) {
		t.Error("the text has changed")
	}
	l[3] = ' '
	hold(t, d, l, []int{0, 2, 3, 4, 6, 7})
}

// TestTogether: calls at the same time don't touch one another, since nothing is kept (R4).
func TestTogether(t *testing.T) {
	d := ucd.New()
	var all sync.WaitGroup
	for n := range 8 {
		all.Go(func() {
			lot := rand.New(rand.NewSource(int64(n)))
			for range 200 {
				l := drawn(lot, signs, 12)
				if got, want := words.All(d, l), allByHeads(d, l); !slices.Equal(got, want) {
					t.Errorf("All(%s): %v, want %v", hex(l), got, want)
				}
			}
		})
	}
	all.Wait()
}

// P6.2

// takesMark tells whether the theorem speaks of a mark that is put at a place of a text: behind a sign that is no line's end, with no ZWJ ahead of a picture there (neither the mark nor what the mark parts from the picture), and not between two spaces.
func takesMark(d *ucd.Data, l []int, i, mark int) bool {
	if i == 0 || in(letterOf(d, l[i-1]), "CLN") {
		return false
	}
	if i == len(l) {
		return true
	}
	ahead, behind := letterOf(d, l[i-1]), letterOf(d, l[i])
	joins := d.Picto(l[i]) && (ahead == 'J' || letterOf(d, mark) == 'J')
	return !joins && (ahead != 'W' || behind != 'W')
}

// holdMarks holds a text's places against those with a mark put in, wherever the theorem speaks of it.
func holdMarks(t *testing.T, d *ucd.Data, l, marks []int) {
	t.Helper()
	all := words.All(d, l)
	for i := range len(l) + 1 {
		for _, mark := range marks {
			if !takesMark(d, l, i, mark) {
				continue
			}
			var want []int
			for _, place := range all {
				if place >= i {
					place++
				}
				want = append(want, place)
			}
			more := slices.Insert(slices.Clone(l), i, mark)
			if got := words.All(d, more); !slices.Equal(got, want) {
				t.Fatalf("All(%s): %v, but of %s: %v", hex(l), all, hex(more), got)
			}
		}
	}
}

func TestMarks(t *testing.T) {
	d := ucd.New()
	for _, text := range []string{
		"", "a", "can't 3.5", "a, b", "a_1  x", "\r\n\na", "\u30a2\u30a4\u0031", "\u05d0\"\u05d0", "\u05d0'",
		"\U0001f1e6\U0001f1e7\U0001f1e8", "\U0001f600\u200d\u2764!", "\n\u0301a", "\u0301\u0302", "1,2;3.4'5", " \u0301 ", "a:b",
	} {
		holdMarks(t, d, runes(text), slices.Concat(marks, []int{0xFE0F, 0x200E, 0xFEFF}))
	}
	texts(signs, 3, func(l []int) { holdMarks(t, d, l, marks) })
	lot := rand.New(rand.NewSource(62))
	for range 2000 {
		holdMarks(t, d, drawn(lot, signs, 12), marks)
	}
}

// TestMarksLoaded: the theorem holds whatever the tables say.
func TestMarksLoaded(t *testing.T) {
	lot := rand.New(rand.NewSource(63))
	for range 40 {
		d, own := drawnData(t, lot)
		var marks []int
		for _, r := range own {
			if in(letterOf(d, r), "EFJ") {
				marks = append(marks, r)
			}
		}
		for range 100 {
			holdMarks(t, d, drawn(lot, own, 12), marks)
		}
	}
}

// TestMarksThatPart: marks of which the theorem doesn't speak: there the places are not those of the text without the mark.
func TestMarksThatPart(t *testing.T) {
	d := ucd.New()
	for _, x := range []struct {
		text      string
		places    []int
		with      string
		newPlaces []int
	}{
		{"a\u2764", []int{0, 1, 2}, "a\u200d\u2764", []int{0, 3}},
		{"a\u200d\u2764", []int{0, 3}, "a\u200d\u0301\u2764", []int{0, 3, 4}},
		{"  ", []int{0, 2}, " \u0301 ", []int{0, 2, 3}},
		{"\na", []int{0, 1, 2}, "\n\u0301a", []int{0, 1, 2, 3}},
		{"\r\n", []int{0, 2}, "\r\u0301\n", []int{0, 1, 2, 3}},
	} {
		hold(t, d, runes(x.text), x.places)
		hold(t, d, runes(x.with), x.newPlaces)
	}
}

// TestEnds: each text has its first place, and its end.
func TestEnds(t *testing.T) {
	d := ucd.New()
	texts(signs, 3, func(l []int) {
		all := words.All(d, l)
		if all[0] != 0 || all[len(all)-1] != len(l) || !words.Break(d, l, 0) || !words.Break(d, l, len(l)) {
			t.Fatalf("All(%s): %v", hex(l), all)
		}
		for i := 1; i < len(all); i++ {
			if all[i] <= all[i-1] {
				t.Fatalf("All(%s) doesn't rise: %v", hex(l), all)
			}
		}
	})
}
