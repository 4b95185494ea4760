package words

import (
	"slices"

	"scansion/ucd"
)

// The kinds of ucd's Word, in its order. Values that data has beyond them are like other.
const (
	other = iota // no rule names it, so that it stands for a head that is not there, too
	carriageReturn
	lineFeed
	newline
	extend
	joiner
	format
	regional
	katakana
	hebrewLetter
	plainLetter
	singleQuote
	doubleQuote
	midNumberLetter
	midLetter
	midNumber
	numeric
	connector
	space
)

func isOne(kind int, of ...int) bool { return slices.Contains(of, kind) }

func isLineEnd(kind int) bool { return isOne(kind, carriageReturn, lineFeed, newline) }
func isMark(kind int) bool    { return isOne(kind, extend, format, joiner) }

func isLetter(kind int) bool  { return isOne(kind, plainLetter, hebrewLetter) }
func isHebrew(kind int) bool  { return kind == hebrewLetter }
func isNumeric(kind int) bool { return kind == numeric }
func isSolid(kind int) bool   { return isOne(kind, plainLetter, hebrewLetter, numeric, katakana) }

func isInLetters(kind int) bool { return isOne(kind, midLetter, midNumberLetter, singleQuote) }
func isInHebrew(kind int) bool  { return kind == doubleQuote }
func isInNumbers(kind int) bool { return isOne(kind, midNumber, midNumberLetter, singleQuote) }

// past is what the rules ask of the heads ahead of a place: the kinds of the last one and of the one before it, and how many regional indicators stand one behind the other up to the last one.
type past struct {
	before, last int
	regionals    int
}

// with is the past behind one head more.
func (p past) with(kind int) past {
	next := past{before: p.last, last: kind}
	if kind == regional {
		next.regionals = p.regionals + 1
	}
	return next
}

// pastOf is the past of the place i, by going back no farther than the rules ask.
func pastOf(d *ucd.Data, l []int, i int) past {
	var p past
	count := 0
	for at := range heads(d, l, i-1, -1) {
		kind := d.Word(l[at])
		switch count {
		case 0:
			p.last = kind
		case 1:
			p.before = kind
		}
		if kind == regional && p.regionals == count {
			p.regionals++
		} else if count > 0 {
			break
		}
		count++
	}
	return p
}

// nextOf is the kind of the first head behind the sign i.
func nextOf(d *ucd.Data, l []int, i int) int {
	for at := range heads(d, l, i+1, 1) {
		return d.Word(l[at])
	}
	return other
}

// ends tells whether a word ends ahead of the head i, by the first rule that says something.
func ends(d *ucd.Data, l []int, i int, p past) bool {
	if i == 0 {
		return true
	}
	ahead, behind := d.Word(l[i-1]), d.Word(l[i])
	switch {
	case ahead == carriageReturn && behind == lineFeed:
		return false
	case isLineEnd(ahead), isLineEnd(behind):
		return true
	case ahead == joiner && d.Picto(l[i]):
		return false
	case ahead == space && behind == space:
		return false
	}
	s := sight{past: p, behind: behind, next: nextOf(d, l, i)}
	return !s.joins()
}

// sight is what the rules 7 to 19 ask of a place: its past, the kind of the head behind it, and of the next one.
type sight struct {
	past
	behind, next int
}

// joins tells whether a rule keeps a word from ending. Their order has no weight: none of them says that one ends.
func (s sight) joins() bool {
	switch {
	case s.goesOn(isLetter, isInLetters), s.goesOn(isHebrew, isInHebrew), s.goesOn(isNumeric, isInNumbers):
		return true
	case isLetter(s.last) && s.behind == numeric, s.last == numeric && isLetter(s.behind):
		return true
	case s.last == hebrewLetter && s.behind == singleQuote:
		return true
	case s.last == katakana && s.behind == katakana:
		return true
	case s.last == connector:
		return s.behind == connector || isSolid(s.behind)
	case s.behind == connector:
		return isSolid(s.last)
	case s.last == regional && s.behind == regional:
		return s.regionals%2 == 1
	}
	return false
}

// goesOn tells whether signs of some kind go on across a place, one next to the other, or with a single sign between that they take in, ahead of the place or behind it.
func (s sight) goesOn(are, takeIn func(kind int) bool) bool {
	if are(s.last) {
		return are(s.behind) || takeIn(s.behind) && are(s.next)
	}
	return takeIn(s.last) && are(s.before) && are(s.behind)
}
