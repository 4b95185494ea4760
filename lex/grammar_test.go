package lex_test

// What the tests hold the package against: the chapter's words as expressions, that say how far a text is made of tokens.

import (
	"regexp"
	"strconv"
	"strings"
	"unicode/utf8"

	"scansion/api"
	"scansion/ranges"
)

const (
	aLetter      = `(?:[^\x00-\x1F\[\]\\-]|\\[\[\]\\-]|\\x\{[0-9A-F]{1,6}\})`
	partOfLetter = `(?:\\(?:x(?:\{[0-9A-F]{0,6})?)?)?`
)

var (
	blanks    = regexp.MustCompile(`^(?:[ \t\r\n]|#[^\n]*)*`)
	aName     = regexp.MustCompile(`^[a-z][a-z0-9_]*`)
	aSign     = regexp.MustCompile(`^[=;/|*+?().~&-]`)
	entries   = regexp.MustCompile(`^(?:` + aLetter + `(?:-` + aLetter + `)?)*`)
	anEntry   = regexp.MustCompile(`^(` + aLetter + `)(?:-(` + aLetter + `))?`)
	cutFirst  = regexp.MustCompile(`^` + partOfLetter)
	cutSecond = regexp.MustCompile(`^-` + partOfLetter)
)

// answer is what Tokens tells.
type answer struct {
	tokens []api.Token
	at     int
	errno  api.Errno
}

// byGrammar is what the chapter says of a text: it is gone through up to the first byte that is no code point, and is stuck there, if not before.
func byGrammar(b []byte) answer {
	if len(b) > 65536 {
		return answer{errno: api.ErrFull}
	}
	whole := string(b)
	good := whole
	for at, r := range whole {
		if _, width := utf8.DecodeRuneInString(whole[at:]); r == utf8.RuneError && width == 1 {
			good = whole[:at]
			break
		}
	}
	x := ofGood(good)
	if good != whole && (x.errno == api.OK || x.errno == api.ErrEnd) {
		return answer{at: len(good), errno: api.ErrSign}
	}
	return x
}

func ofGood(s string) answer {
	var l []api.Token
	for at := 0; ; {
		at += len(blanks.FindString(s[at:]))
		rest := s[at:]
		t := api.Token{At: at}
		width := 0
		switch {
		case rest == "":
			return answer{tokens: append(l, api.Token{Kind: api.TokEnd, At: at})}
		case aName.MatchString(rest):
			t.Kind, t.Text = api.TokName, aName.FindString(rest)
			width = len(t.Text)
		case aSign.MatchString(rest):
			t.Kind, t.Text = api.TokSign, rest[:1]
			width = 1
		case rest[0] == '[':
			x, inside := ofSet(rest[1:])
			if x.errno != api.OK {
				return answer{at: at + 1 + x.at, errno: x.errno}
			}
			t.Kind, t.Set = api.TokSet, inside
			width = x.at + 2
		default:
			return answer{at: at, errno: api.ErrSign}
		}
		l = append(l, t)
		at += width
	}
}

// ofSet is of what stands behind a set's first bracket: where the last one stands, or the error and its place.
func ofSet(s string) (answer, []api.Range) {
	all := entries.FindString(s)
	rest := s[len(all):]
	var l []api.Range
	for at := 0; at < len(all); {
		found := anEntry.FindStringSubmatch(all[at:])
		end := at + len(found[0])
		if end == len(all) && found[2] == "" && strings.HasPrefix(rest, "-") {
			return stuck(s, end+len(cutSecond.FindString(rest))), nil
		}
		r := api.Range{Low: numberOf(found[1]), High: numberOf(found[1])}
		if found[2] != "" {
			r.High = numberOf(found[2])
		}
		if r.Low > 0x10FFFF || r.High > 0x10FFFF || r.Low > r.High {
			return answer{at: at, errno: api.ErrArg}, nil
		}
		l = append(l, r)
		at = end
	}
	if !strings.HasPrefix(rest, "]") {
		return stuck(s, len(all)+len(cutFirst.FindString(rest))), nil
	}
	set, _ := ranges.Make(l)
	return answer{at: len(all)}, set
}

func stuck(s string, at int) answer {
	if at == len(s) {
		return answer{at: at, errno: api.ErrEnd}
	}
	return answer{at: at, errno: api.ErrSign}
}

func numberOf(letter string) int {
	if figures, ok := strings.CutPrefix(letter, `\x{`); ok {
		n, err := strconv.ParseUint(strings.TrimSuffix(figures, "}"), 16, 32)
		if err != nil {
			panic(err)
		}
		return int(n)
	}
	if len(letter) > 1 {
		letter = strings.TrimPrefix(letter, `\`)
	}
	r, _ := utf8.DecodeRuneInString(letter)
	return int(r)
}
