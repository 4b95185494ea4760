package syntax

import "scansion/api"

// These make rules of the language out of rules, whatever it is that a rule tells: a set, or an expression.

// ended is what a rule tells that a sign must stand behind.
func ended[T any](p *parser, rule func() (T, api.Errno), sign string) (T, api.Errno) {
	told, e := rule()
	if e == api.OK && !p.takesSign(sign) {
		e = api.ErrSign
	}
	return told, e
}

// deeper is what a rule tells within the next token.
func deeper[T any](p *parser, rule func() (T, api.Errno)) (T, api.Errno) {
	if p.depth == api.MaxDepth {
		var none T
		return none, api.ErrFull
	}
	p.take()
	p.depth++
	told, e := rule()
	p.depth--
	return told, e
}

// bracketed is what a rule tells within brackets, the first of which is the next token.
func bracketed[T any](p *parser, rule func() (T, api.Errno)) (T, api.Errno) {
	return deeper(p, func() (T, api.Errno) { return ended(p, rule, ")") })
}

// several are what a rule tells, any number of times: as long as more says that there is one more.
func several[T any](rule func() (T, api.Errno), more func() bool) ([]T, api.Errno) {
	var l []T
	for more() {
		told, e := rule()
		if e != api.OK {
			return nil, e
		}
		l = append(l, told)
	}
	return l, api.OK
}

// parted are what a rule tells once, and once more behind each sign of that kind.
func parted[T any](p *parser, rule func() (T, api.Errno), sign string) ([]T, api.Errno) {
	first, e := rule()
	if e != api.OK {
		return nil, e
	}
	rest, e := several(rule, func() bool { return p.takesSign(sign) })
	return append([]T{first}, rest...), e
}
