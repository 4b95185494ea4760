package syntax

import (
	"slices"

	"scansion/api"
	"scansion/ranges"
)

// parser has a method for each rule of the language: it takes the tokens that the rule asks for, and is what they tell.
type parser struct {
	tokens
	names   map[string][]api.Range // what was given to them
	program api.Program
	depth   int // how many of ( and ~ the next token stands in
}

func (p *parser) text() api.Errno {
	for p.more() {
		if e := p.sentence(); e != api.OK {
			return e
		}
	}
	return api.OK
}

func (p *parser) sentence() api.Errno {
	switch {
	case p.isWord("set"):
		return p.naming()
	case !p.beginsRule():
		return api.ErrSign
	case len(p.program.Rules) == api.MaxRules:
		return api.ErrFull
	}
	r, e := p.rule()
	p.program.Rules = append(p.program.Rules, r)
	return e
}

// naming gives a set to a name. The name is known from then on, not in the sum already.
func (p *parser) naming() api.Errno {
	p.take()
	if !p.isName() {
		return api.ErrSign
	}
	name := p.next().Text
	if _, there := p.names[name]; there {
		return api.ErrThere
	}
	p.take()
	if !p.takesSign("=") {
		return api.ErrSign
	}
	set, e := ended(p, p.sum, ";")
	p.names[name] = set
	return e
}

func (p *parser) rule() (api.Rule, api.Errno) {
	r := api.Rule{Break: p.isWord("break")}
	p.take()
	var e api.Errno
	if r.Left, e = ended(p, p.regex, "/"); e == api.OK {
		r.Right, e = ended(p, p.regex, ";")
	}
	return r, e
}

func (p *parser) sum() ([]api.Range, api.Errno) {
	all, e := p.term()
	for e == api.OK {
		join := p.joint()
		if join == nil {
			break
		}
		var more []api.Range
		more, e = p.term()
		all = join(all, more)
	}
	return all, e
}

// joint takes a sign between two terms, and is what makes one set of them; nil, if there is no such sign.
func (p *parser) joint() func(a, b []api.Range) []api.Range {
	switch {
	case p.takesSign("+"):
		return ranges.Or
	case p.takesSign("-"):
		return ranges.Less
	case p.takesSign("&"):
		return ranges.And
	}
	return nil
}

func (p *parser) term() ([]api.Range, api.Errno) {
	switch {
	case p.isSign("~"):
		set, e := deeper(p, p.term)
		return ranges.Not(set), e
	case p.isSign("("):
		return bracketed(p, p.sum)
	}
	set, e := p.set()
	if e == api.OK {
		p.take()
	}
	return set, e
}

func (p *parser) regex() (api.Node, api.Errno) {
	l, e := parted(p, p.cat, "|")
	return joined(api.NodeAlt, l), e
}

func (p *parser) cat() (api.Node, api.Errno) {
	l, e := several(p.signed, p.beginsPart)
	return joined(api.NodeCat, l), e
}

// signed is a part, and the signs behind it. Those that a part out of brackets ends with count, too, since no brackets stand there where it is printed.
func (p *parser) signed() (api.Node, api.Errno) {
	n, e := p.part()
	if e != api.OK {
		return api.Node{}, e
	}
	for count := signs(n); ; count++ {
		kind, ok := kindOf(p.next())
		switch {
		case !ok:
			return n, api.OK
		case count == api.MaxSigns:
			return api.Node{}, api.ErrFull
		}
		p.take()
		n = api.Node{Kind: kind, Kids: []api.Node{n}}
	}
}

func (p *parser) part() (api.Node, api.Errno) {
	if p.isSign("(") {
		return bracketed(p, p.regex)
	}
	set, e := p.set()
	if e != api.OK {
		return api.Node{}, e
	}
	place, e := p.place(set)
	if e == api.OK {
		p.take()
	}
	return api.Node{Kind: api.NodeSet, Set: place}, e
}

// set is the one that the next token tells, which stays there: a set that is right may still be one too many.
func (p *parser) set() ([]api.Range, api.Errno) {
	n := p.next()
	switch {
	case n.Kind == api.TokSet:
		return n.Set, api.OK
	case p.isSign("."):
		return ranges.Not(nil), api.OK
	case !p.isName():
		return nil, api.ErrSign
	}
	set, ok := p.names[n.Text]
	if !ok {
		return nil, api.ErrNone
	}
	return set, api.OK
}

// place is that of a set among the program's, which it is put to if it is not there.
func (p *parser) place(set []api.Range) (int, api.Errno) {
	place := slices.IndexFunc(p.program.Sets, func(s []api.Range) bool { return slices.Equal(s, set) })
	switch {
	case place >= 0:
		return place, api.OK
	case len(p.program.Sets) == api.MaxSets:
		return 0, api.ErrFull
	}
	p.program.Sets = append(p.program.Sets, set)
	return len(p.program.Sets) - 1, api.OK
}

// joined is the expression of some parts; one part is that itself.
func joined(kind int, parts []api.Node) api.Node {
	if len(parts) == 1 {
		return parts[0]
	}
	return api.Node{Kind: kind, Kids: parts}
}
