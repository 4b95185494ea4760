package syntax_test

// What the tests hold Parse against: a machine that goes through the tokens one by one, with stacks of its own, and reckons sets as yes and no for each stretch of numbers that the text's sets part.

import (
	"slices"
	"strings"

	"scansion/api"
	"scansion/lex"
)

// answer is what Parse tells.
type answer struct {
	program api.Program
	at      int
	errno   api.Errno
}

// yes tells of each stretch of numbers whether it is in a set.
type yes []bool

// frame is what is open in a sum: of a bracket the terms so far, and the sign behind them.
type frame struct {
	sign string
	has  bool
	all  yes
	join string
}

// item is a part of a cat, and how many signs stand behind it, one behind the other.
type item struct {
	node  api.Node
	signs int
}

type machine struct {
	edges []int // where stretches begin; the last one is where the last stretch ends
	names map[string]yes
	name  string
	state string
	sum   []frame
	regex [][][]item // of each bracket that is open its cats
	part  bool       // whether a part stands right ahead
	sets  []yes
	rules []api.Rule
	rule  api.Rule
}

func byMachine(b []byte) answer {
	l, at, e := lex.Tokens(b)
	if e != api.OK {
		return answer{at: at, errno: e}
	}
	m := machine{edges: []int{0, 0x110000}, names: map[string]yes{}, state: "top"}
	for _, x := range l {
		for _, r := range x.Set {
			m.edges = append(m.edges, r.Low, r.High+1)
		}
	}
	slices.Sort(m.edges)
	m.edges = slices.Compact(m.edges)
	for _, x := range l {
		if e := m.step(x); e != api.OK {
			return answer{at: x.At, errno: e}
		}
	}
	p := api.Program{Rules: m.rules}
	for _, s := range m.sets {
		p.Sets = append(p.Sets, m.list(s))
	}
	return answer{program: p}
}

// step takes one token. What each state takes is written out: all else is ErrSign.
func (m *machine) step(x api.Token) api.Errno {
	text := x.Text
	word := x.Kind == api.TokName && strings.Contains(" set break keep ", " "+text+" ")
	if x.Kind == api.TokName && !word {
		text = "NAME"
	} else if x.Kind == api.TokSet {
		text = "SET"
	} else if x.Kind == api.TokEnd {
		text = "END"
	}
	switch m.state + " " + text {
	case "top END":
	case "top set":
		m.state = "name"
	case "top break", "top keep":
		if len(m.rules) == 64 {
			return api.ErrFull
		}
		m.rule = api.Rule{Break: text == "break"}
		m.state, m.regex, m.part = "left", [][][]item{{{}}}, false
	case "name NAME":
		if _, given := m.names[x.Text]; given {
			return api.ErrThere
		}
		m.name, m.state = x.Text, "equals"
	case "equals =":
		m.state, m.sum = "term", []frame{{}}
	case "term (", "term ~":
		if len(m.sum) > 20 {
			return api.ErrFull
		}
		m.sum = append(m.sum, frame{sign: text})
	case "term SET", "term NAME", "term .":
		s, e := m.told(x)
		if e != api.OK {
			return e
		}
		m.operand(s)
	case "sign +", "sign -", "sign &":
		m.sum[len(m.sum)-1].join, m.state = text, "term"
	case "sign )":
		last := m.sum[len(m.sum)-1]
		if last.sign != "(" {
			return api.ErrSign
		}
		m.sum = m.sum[:len(m.sum)-1]
		m.operand(last.all)
	case "sign ;":
		if len(m.sum) > 1 {
			return api.ErrSign
		}
		m.names[m.name], m.state = m.sum[0].all, "top"
	default:
		if m.state != "left" && m.state != "right" {
			return api.ErrSign
		}
		return m.stepInRegex(x, text)
	}
	return api.OK
}

// operand puts a term to the sum that is open; what ~ stands ahead of is done with at once.
func (m *machine) operand(s yes) {
	for m.sum[len(m.sum)-1].sign == "~" {
		m.sum = m.sum[:len(m.sum)-1]
		s = slices.Clone(s)
		for i := range s {
			s[i] = !s[i]
		}
	}
	f := &m.sum[len(m.sum)-1]
	joined := slices.Clone(s)
	for i := range joined {
		switch {
		case !f.has:
		case f.join == "+":
			joined[i] = f.all[i] || s[i]
		case f.join == "-":
			joined[i] = f.all[i] && !s[i]
		default:
			joined[i] = f.all[i] && s[i]
		}
	}
	f.all, f.has, m.state = joined, true, "sign"
}

func (m *machine) stepInRegex(x api.Token, text string) api.Errno {
	open := len(m.regex) - 1
	cats := &m.regex[open]
	last := len(*cats) - 1
	switch text {
	case "SET", "NAME", ".":
		s, e := m.told(x)
		if e != api.OK {
			return e
		}
		place := slices.IndexFunc(m.sets, func(met yes) bool { return slices.Equal(met, s) })
		if place < 0 {
			if len(m.sets) == 60 {
				return api.ErrFull
			}
			place = len(m.sets)
			m.sets = append(m.sets, s)
		}
		(*cats)[last] = append((*cats)[last], item{node: api.Node{Kind: 1, Set: place}})
		m.part = true
	case "(":
		if open == 20 {
			return api.ErrFull
		}
		m.regex, m.part = append(m.regex, [][]item{{}}), false
	case ")":
		if open == 0 {
			return api.ErrSign
		}
		done := whole(*cats)
		m.regex, m.part = m.regex[:open], true
		cats = &m.regex[open-1]
		last = len(*cats) - 1
		(*cats)[last] = append((*cats)[last], done)
	case "|":
		*cats, m.part = append(*cats, nil), false
	case "*", "+", "?":
		if !m.part {
			return api.ErrSign
		}
		i := &(*cats)[last][len((*cats)[last])-1]
		if i.signs == 3 {
			return api.ErrFull
		}
		i.node = api.Node{Kind: 3 + strings.Index("*+?", text), Kids: []api.Node{i.node}}
		i.signs++
	default:
		return m.stepToSide(text, open)
	}
	return api.OK
}

func (m *machine) stepToSide(text string, open int) api.Errno {
	switch {
	case open == 0 && text == "/" && m.state == "left":
		m.rule.Left = whole(m.regex[0]).node
		m.state, m.regex, m.part = "right", [][][]item{{{}}}, false
	case open == 0 && text == ";" && m.state == "right":
		m.rule.Right = whole(m.regex[0]).node
		m.rules, m.state = append(m.rules, m.rule), "top"
	default:
		return api.ErrSign
	}
	return api.OK
}

// whole is what cats tell together. Where all there is is one part, its signs are still to be counted.
func whole(cats [][]item) item {
	var l []api.Node
	for _, c := range cats {
		if len(cats) == 1 && len(c) == 1 {
			return c[0]
		}
		var parts []api.Node
		for _, i := range c {
			parts = append(parts, i.node)
		}
		if len(parts) == 1 {
			l = append(l, parts[0])
		} else {
			l = append(l, api.Node{Kind: 0, Kids: parts})
		}
	}
	if len(l) == 1 {
		return item{node: l[0]}
	}
	return item{node: api.Node{Kind: 2, Kids: l}}
}

func (m *machine) told(x api.Token) (yes, api.Errno) {
	if x.Kind == api.TokName {
		s, given := m.names[x.Text]
		if !given {
			return nil, api.ErrNone
		}
		return s, api.OK
	}
	s := make(yes, len(m.edges)-1)
	for i := range s {
		s[i] = x.Kind == api.TokSign || slices.ContainsFunc(x.Set, func(r api.Range) bool { return r.Low <= m.edges[i] && m.edges[i] <= r.High })
	}
	return s, api.OK
}

// list is a set as ranges, stretches that touch taken together.
func (m *machine) list(s yes) []api.Range {
	var l []api.Range
	for i, in := range s {
		switch {
		case !in:
		case i > 0 && s[i-1]:
			l[len(l)-1].High = m.edges[i+1] - 1
		default:
			l = append(l, api.Range{Low: m.edges[i], High: m.edges[i+1] - 1})
		}
	}
	return l
}
