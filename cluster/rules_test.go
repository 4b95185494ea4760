package cluster_test

// What the tests hold the package against: the chapter's rules as expressions over signs, and the shape of a cluster as one expression.

import (
	"regexp"
	"strings"
	"testing"

	"scansion/api"
	"scansion/trie"
	"scansion/ucd"
)

// letters has a letter for each kind: Other, CR, LF, Control, Extend, ZWJ, RegionalIndicator, Prepend, SpacingMark, L, V, T, LV, LVT.
const letters = "ONFCEJRPSLVTXY"

// written writes a text with two letters a sign: its kind, then p for a picture, - for none.
func written(d *ucd.Data, l []int) string {
	var s strings.Builder
	for _, r := range l {
		letter := byte('O')
		if kind := d.Cluster(r); kind < len(letters) {
			letter = letters[kind]
		}
		s.WriteByte(letter)
		if d.Picto(r) {
			s.WriteByte('p')
		} else {
			s.WriteByte('-')
		}
	}
	return s.String()
}

type rule struct {
	ahead, behind *regexp.Regexp
	ends          bool
}

// chapter is the rules 2 to 11, by what stands ahead of a place and what stands behind it.
var chapter = func() []rule {
	var l []rule
	for _, x := range []struct {
		ahead, behind string
		ends          bool
	}{
		{`N.$`, `^F`, false},
		{`[NFC].$`, ``, true},
		{``, `^[NFC]`, true},
		{`L.$`, `^[LVXY]`, false},
		{`[XV].$`, `^[VT]`, false},
		{`[YT].$`, `^T`, false},
		{``, `^[EJS]`, false},
		{`P.$`, ``, false},
		{`[A-Z]p(E.)*J.$`, `^.p`, false},
		{`(^|[^R][p-])R.(R.R.)*$`, `^R`, false},
		{``, ``, true},
	} {
		l = append(l, rule{regexp.MustCompile(x.ahead), regexp.MustCompile(x.behind), x.ends})
	}
	return l
}()

// byRules tells whether a cluster ends at a place, by the rules as they stand in the chapter.
func byRules(s string, i int) bool {
	ahead, behind := s[:2*i], s[2*i:]
	if ahead == "" || behind == "" {
		return true
	}
	for _, x := range chapter {
		if x.ahead.MatchString(ahead) && x.behind.MatchString(behind) {
			return x.ends
		}
	}
	panic("the last rule says something of every place")
}

func allByRules(d *ucd.Data, l []int) []int {
	s := written(d, l)
	var all []int
	for i := range len(l) + 1 {
		if byRules(s, i) {
			all = append(all, i)
		}
	}
	return all
}

// shape is a whole cluster: a line's end or a control, or signs ahead, a core, and marks behind. It holds of data whose pictures are of the kind Other.
var shape = regexp.MustCompile(`^(?:N-F-|[NFC]-|(?:P-)*(?:` +
	`(?:L-)*(?:(?:V-)+|X-(?:V-)*|Y-)(?:T-)*|(?:L-)+|(?:T-)+|` +
	`R-R-|Op(?:(?:E-)*J-Op)*|[^NFC].)(?:[EJS]-)*)`)

// allByShape takes one cluster behind the other off a text.
func allByShape(d *ucd.Data, l []int) []int {
	s := written(d, l)
	all := []int{0}
	for at := 0; at < len(s); {
		at += len(shape.FindString(s[at:]))
		all = append(all, at/2)
	}
	return all
}

// loaded is data of the tables Cluster and Picto that are given; the others are empty.
func loaded(t *testing.T, clusters, pictures []api.Prop) *ucd.Data {
	t.Helper()
	var b []byte
	for _, l := range [][]api.Prop{clusters, nil, nil, pictures} {
		tr, e := trie.Build(l)
		if e != api.OK {
			t.Fatal("Build:", e)
		}
		part := tr.Save()
		n := len(part)
		b = append(b, byte(n), byte(n>>8), byte(n>>16), byte(n>>24))
		b = append(b, part...)
	}
	d, e := ucd.Load(b)
	if e != api.OK {
		t.Fatal("Load:", e)
	}
	return d
}
