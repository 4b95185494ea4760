package syntax

import "scansion/api"

// tokens are those of a text. None is taken before it is known to fit, so that what is wrong is always wrong with the next one.
type tokens struct {
	list  []api.Token
	taken int
}

// next is the first token that is not taken. There always is one, since the end fits nowhere.
func (t *tokens) next() api.Token { return t.list[t.taken] }

func (t *tokens) take() { t.taken++ }

// more tells whether there is a token ahead of the end.
func (t *tokens) more() bool { return t.next().Kind != api.TokEnd }

func (t *tokens) isSign(text string) bool { return t.is(api.TokSign, text) }

// isWord tells whether the next token is that one of the language's own names.
func (t *tokens) isWord(text string) bool { return t.is(api.TokName, text) }

func (t *tokens) is(kind int, text string) bool {
	n := t.next()
	return n.Kind == kind && n.Text == text
}

// isName tells whether the next token is one that sets may be given; the language's own names are not.
func (t *tokens) isName() bool {
	return t.next().Kind == api.TokName && !t.isWord("set") && !t.beginsRule()
}

func (t *tokens) beginsRule() bool { return t.isWord("break") || t.isWord("keep") }

// tellsSet tells whether the next token is one that stands for a set.
func (t *tokens) tellsSet() bool {
	return t.next().Kind == api.TokSet || t.isName() || t.isSign(".")
}

// beginsPart tells whether a part of a cat begins with the next token.
func (t *tokens) beginsPart() bool { return t.tellsSet() || t.isSign("(") }

// takesSign takes a sign, if it is the next token, and tells whether it was.
func (t *tokens) takesSign(text string) bool {
	if !t.isSign(text) {
		return false
	}
	t.take()
	return true
}
