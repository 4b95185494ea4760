package lex

// rule tells whether a sign may stand at a place.
type rule func(sign int) bool

func is(wanted int) rule {
	return func(sign int) bool { return sign == wanted }
}

// atMost is a rule that no sign fits any more once so many were asked about.
func atMost(count int, fits rule) rule {
	return func(sign int) bool {
		count--
		return count >= 0 && fits(sign)
	}
}

func isBlank(sign int) bool {
	switch sign {
	case ' ', '\t', '\r', '\n':
		return true
	}
	return false
}

func isInNote(sign int) bool { return sign != '\n' }

func isToken(sign int) bool {
	switch sign {
	case '=', ';', '/', '|', '*', '+', '?', '(', ')', '.', '~', '&', '-':
		return true
	}
	return false
}

func beginsName(sign int) bool { return 'a' <= sign && sign <= 'z' }

func isInName(sign int) bool { return beginsName(sign) || isDecimal(sign) || sign == '_' }

func isDecimal(sign int) bool { return '0' <= sign && sign <= '9' }

func isFigure(sign int) bool { return isDecimal(sign) || 'A' <= sign && sign <= 'F' }

// isGuarded is of the signs that a set's own form is made of, which are letters only behind a backslash.
func isGuarded(sign int) bool {
	switch sign {
	case '[', ']', '-', '\\':
		return true
	}
	return false
}

// isPlain is of the letters that stand as they are. A line's end is none of them, so that a set whose bracket was forgotten does not reach on to the next line.
func isPlain(sign int) bool { return sign >= ' ' && !isGuarded(sign) }
