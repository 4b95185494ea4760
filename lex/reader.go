package lex

import (
	"strconv"

	"scansion/api"
	"scansion/ranges"
)

// mostFigures is how many figures a number in braces may have: enough for all that may be, and for some that are too great.
const mostFigures = 6

// reader goes through a text sign by sign, as far as the rules that it is handed let it.
type reader struct {
	text  []byte
	units []api.Unit // the signs that are not taken yet
}

// at is the byte at which the next sign begins, or the text ends.
func (r *reader) at() int {
	if len(r.units) == 0 {
		return len(r.text)
	}
	return r.units[0].At
}

// since is the text from a byte on to where the reader stands, as a copy.
func (r *reader) since(from int) string { return string(r.text[from:r.at()]) }

// sign takes the next sign, if it fits. A bad one is asked about nowhere, so that it may stand nowhere.
func (r *reader) sign(fits rule) (int, bool) {
	if len(r.units) == 0 || r.units[0].Bad || !fits(r.units[0].Rune) {
		return 0, false
	}
	sign := r.units[0].Rune
	r.units = r.units[1:]
	return sign, true
}

func (r *reader) take(fits rule) bool {
	_, ok := r.sign(fits)
	return ok
}

func (r *reader) takeAll(fits rule) {
	for r.take(fits) {
	}
}

// takeBlanks takes blanks and notes. A note's LF is a blank itself; a bad sign, which ends a note, too, is left to who reads on.
func (r *reader) takeBlanks() {
	for {
		switch {
		case r.take(isBlank):
		case r.take(is('#')):
			r.takeAll(isInNote)
		default:
			return
		}
	}
}

// stuck is the error of a reader that can't go on, and its place.
func (r *reader) stuck() (int, api.Errno) {
	if len(r.units) == 0 {
		return r.at(), api.ErrEnd
	}
	return r.at(), api.ErrSign
}

// token takes a token; at the text's end, that of the end.
func (r *reader) token() (t api.Token, at int, e api.Errno) {
	t.At = r.at()
	switch {
	case len(r.units) == 0:
		t.Kind = api.TokEnd
	case r.take(beginsName):
		r.takeAll(isInName)
		t.Kind, t.Text = api.TokName, r.since(t.At)
	case r.take(isToken):
		t.Kind, t.Text = api.TokSign, r.since(t.At)
	case r.take(is('[')):
		t.Kind = api.TokSet
		t.Set, at, e = r.set()
	default:
		at, e = r.stuck()
	}
	return t, at, e
}

// set takes the entries of a set, and the bracket behind them.
func (r *reader) set() ([]api.Range, int, api.Errno) {
	var l []api.Range
	for !r.take(is(']')) {
		first := r.at()
		entry, ok := r.entry()
		switch {
		case !ok:
			at, e := r.stuck()
			return nil, at, e
		case entry.Low > entry.High, entry.High > api.MaxRune:
			return nil, first, api.ErrArg
		}
		l = append(l, entry)
	}
	set, e := ranges.Make(l)
	return set, 0, e
}

// entry takes one letter, or two; whether their numbers may be is not asked here, since what is wrong with a letter comes first.
func (r *reader) entry() (api.Range, bool) {
	low, ok := r.letter()
	if !ok || !r.take(is('-')) {
		return api.Range{Low: low, High: low}, ok
	}
	high, ok := r.letter()
	return api.Range{Low: low, High: high}, ok
}

// letter takes a letter of a set; where it is none, the reader stands at what does not fit.
func (r *reader) letter() (int, bool) {
	switch {
	case !r.take(is('\\')):
		return r.sign(isPlain)
	case !r.take(is('x')):
		return r.sign(isGuarded)
	case !r.take(is('{')):
		return 0, false
	}
	return r.number()
}

// number takes figures, and the brace behind them.
func (r *reader) number() (int, bool) {
	from := r.at()
	r.takeAll(atMost(mostFigures, isFigure))
	n, err := strconv.ParseInt(r.since(from), 16, 0)
	if err != nil { // there are no figures
		return 0, false
	}
	return int(n), r.take(is('}'))
}
