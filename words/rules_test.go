package words_test

// What the tests hold the package against: the chapter's rules as expressions over signs, and the rules once more, said of lists of heads.

import (
	"regexp"
	"strings"
	"testing"

	"scansion/api"
	"scansion/trie"
	"scansion/ucd"
)

// letters has a letter for each kind: Other, CR, LF, Newline, Extend, ZWJ, Format, RegionalIndicator, Katakana, HebrewLetter, ALetter, SingleQuote, DoubleQuote, MidNumLet, MidLetter, MidNum, Numeric, ExtendNumLet, WSegSpace.
const letters = "OCLNEJFRKHASDQMUXTW"

func letterOf(d *ucd.Data, r int) byte {
	if kind := d.Word(r); kind < len(letters) {
		return letters[kind]
	}
	return 'O'
}

// written writes a text with two letters a sign: its kind, then p for a picture, - for none.
func written(d *ucd.Data, l []int) string {
	var s strings.Builder
	for _, r := range l {
		s.WriteByte(letterOf(d, r))
		if d.Picto(r) {
			s.WriteByte('p')
		} else {
			s.WriteByte('-')
		}
	}
	return s.String()
}

type rule struct {
	ahead, behind *regexp.Regexp
	ends          bool
}

// chapter is the rules 2 to 20, by what stands ahead of a place and what stands behind it. A lower m is any number of marks, a dot is a picture or none.
//
// A head that is a mark is named by no rule: so a head that is named is a sign of its kind with marks behind it, and with no other sign there.
var chapter = func() []rule {
	var l []rule
	marks := strings.NewReplacer("m", "(?:[EJF].)*")
	for _, x := range []struct {
		ahead, behind string
		ends          bool
	}{
		{`C.$`, `^L`, false},
		{`[CLN].$`, ``, true},
		{``, `^[CLN]`, true},
		{`J.$`, `^.p`, false},
		{`W.$`, `^W`, false},
		{``, `^[EFJ]`, false},
		{`[AH].m$`, `^[AH]`, false},
		{`[AH].m$`, `^[MQS].m[AH]`, false},
		{`[AH].m[MQS].m$`, `^[AH]`, false},
		{`H.m$`, `^S`, false},
		{`H.m$`, `^D.mH`, false},
		{`H.mD.m$`, `^H`, false},
		{`X.m$`, `^X`, false},
		{`[AH].m$`, `^X`, false},
		{`X.m$`, `^[AH]`, false},
		{`X.m[UQS].m$`, `^X`, false},
		{`X.m$`, `^[UQS].mX`, false},
		{`K.m$`, `^K`, false},
		{`[AHXKT].m$`, `^T`, false},
		{`T.m$`, `^[AHXK]`, false},
		{`(?:^|[A-DG-IK-QS-Z].)mR.m(?:R.mR.m)*$`, `^R`, false},
		{``, ``, true},
	} {
		l = append(l, rule{regexp.MustCompile(marks.Replace(x.ahead)), regexp.MustCompile(marks.Replace(x.behind)), x.ends})
	}
	return l
}()

// byRules tells whether a word ends at a place, by the rules as they stand in the chapter.
func byRules(s string, i int) bool {
	ahead, behind := s[:2*i], s[2*i:]
	if ahead == "" || behind == "" {
		return true
	}
	for _, x := range chapter {
		if x.behind.MatchString(behind) && x.ahead.MatchString(ahead) {
			return x.ends
		}
	}
	panic("the last rule says something of every place")
}

func allByRules(d *ucd.Data, l []int) []int {
	s := written(d, l)
	var all []int
	for i := range len(l) + 1 {
		if byRules(s, i) {
			all = append(all, i)
		}
	}
	return all
}

func in(letter byte, kinds string) bool { return strings.IndexByte(kinds, letter) >= 0 }

// headsOf tells of each sign whether it is a head.
func headsOf(d *ucd.Data, l []int) []bool {
	var all []bool
	for i, r := range l {
		all = append(all, i == 0 || in(letterOf(d, l[i-1]), "CLN") || !in(letterOf(d, r), "EFJ"))
	}
	return all
}

// kindsOf is the kinds of those signs that are heads.
func kindsOf(d *ucd.Data, l []int, heads []bool) string {
	var kinds []byte
	for i, r := range l {
		if heads[i] {
			kinds = append(kinds, letterOf(d, r))
		}
	}
	return string(kinds)
}

// joined tells by the rules 7 to 19 whether heads, of which at least one stands ahead, belong to one word: ahead and behind are their kinds, in the text's order. A dot is a head that is not there.
func joined(ahead, behind string) bool {
	around := ".." + ahead
	around = around[len(around)-2:] + (behind + ".")[:2]
	const each = letters + "."
	for _, x := range [][4]string{
		{each, "AH", "AH", each},
		{each, "AH", "MQS", "AH"},
		{"AH", "MQS", "AH", each},
		{each, "H", "S", each},
		{each, "H", "D", "H"},
		{"H", "D", "H", each},
		{each, "X", "AHX", each},
		{each, "AHX", "X", each},
		{"X", "UQS", "X", each},
		{each, "X", "UQS", "X"},
		{each, "K", "K", each},
		{each, "AHXKT", "T", each},
		{each, "T", "AHXK", each},
	} {
		if in(around[0], x[0]) && in(around[1], x[1]) && in(around[2], x[2]) && in(around[3], x[3]) {
			return true
		}
	}
	odd := (len(ahead)-len(strings.TrimRight(ahead, "R")))%2 == 1
	return odd && behind[0] == 'R'
}

// allByHeads is the places at which words end, by lists of the heads ahead of each place and behind it.
func allByHeads(d *ucd.Data, l []int) []int {
	all := []int{0}
	heads := headsOf(d, l)
	for i := 1; i < len(l); i++ {
		ahead, behind := letterOf(d, l[i-1]), letterOf(d, l[i])
		switch {
		case ahead == 'C' && behind == 'L':
			continue
		case in(ahead, "CLN"), in(behind, "CLN"):
			all = append(all, i)
			continue
		case ahead == 'J' && d.Picto(l[i]), ahead == 'W' && behind == 'W', in(behind, "EFJ"):
			continue
		}
		if !joined(kindsOf(d, l[:i], heads[:i]), kindsOf(d, l[i:], heads[i:])) {
			all = append(all, i)
		}
	}
	if len(l) > 0 {
		all = append(all, len(l))
	}
	return all
}

// loaded is data of the tables Word and Picto that are given; the others are empty.
func loaded(t *testing.T, words, pictures []api.Prop) *ucd.Data {
	t.Helper()
	var b []byte
	for _, l := range [][]api.Prop{nil, words, nil, pictures} {
		tr, e := trie.Build(l)
		if e != api.OK {
			t.Fatal("Build:", e)
		}
		part := tr.Save()
		n := len(part)
		b = append(b, byte(n), byte(n>>8), byte(n>>16), byte(n>>24))
		b = append(b, part...)
	}
	d, e := ucd.Load(b)
	if e != api.OK {
		t.Fatal("Load:", e)
	}
	return d
}
