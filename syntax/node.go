package syntax

import "scansion/api"

// kindOf is the kind of expression that a token makes of the part ahead of it, if it makes one.
func kindOf(t api.Token) (int, bool) {
	if t.Kind != api.TokSign {
		return 0, false
	}
	switch t.Text {
	case "*":
		return api.NodeStar, true
	case "+":
		return api.NodePlus, true
	case "?":
		return api.NodeOpt, true
	}
	return 0, false
}

// signOf is the sign that stands behind the part of such an expression; none, if it is of another kind.
func signOf(kind int) string {
	switch kind {
	case api.NodeStar:
		return "*"
	case api.NodePlus:
		return "+"
	case api.NodeOpt:
		return "?"
	}
	return ""
}

// signs tells how many signs an expression ends with, one behind the other, that all of it stands ahead of.
func signs(n api.Node) int {
	count := 0
	for signOf(n.Kind) != "" {
		n = n.Kids[0]
		count++
	}
	return count
}

// inBrackets tells whether a part of an expression stands in brackets where it is printed: both are told by their kinds.
func inBrackets(part, whole int) bool {
	switch part {
	case api.NodeAlt:
		return true
	case api.NodeCat:
		return whole != api.NodeAlt
	}
	return false
}
