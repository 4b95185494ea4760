package syntax

import "scansion/api"

// printer writes programs that may be.
type printer struct {
	sets []string // as they are written; each may stand at many places
	text []byte
}

func (w *printer) write(s string) { w.text = append(w.text, s...) }

func (w *printer) rule(r api.Rule) {
	if r.Break {
		w.write("break ")
	} else {
		w.write("keep ")
	}
	w.expression(r.Left)
	w.write("/")
	w.expression(r.Right)
	w.write(";\n")
}

func (w *printer) expression(n api.Node) {
	if n.Kind == api.NodeSet {
		w.write(w.sets[n.Set])
	}
	for i, part := range n.Kids {
		if i > 0 && n.Kind == api.NodeAlt {
			w.write("|")
		}
		w.part(part, n.Kind)
	}
	w.write(signOf(n.Kind))
}

func (w *printer) part(n api.Node, whole int) {
	if !inBrackets(n.Kind, whole) {
		w.expression(n)
		return
	}
	w.write("(")
	w.expression(n)
	w.write(")")
}
