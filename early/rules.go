package early

import "septum/api"

// name is a name that was met, and the place of the node whose kid has it: others may have it again.
type name struct {
	of   int
	text string
}

// isBarred tells whether what the node at s says may not be said there at all.
func isBarred(t []api.Node, s spot) bool {
	n := t[s.at]
	switch n.Kind {
	case api.NdId, api.NdDecl, api.NdParam, api.NdCatch, api.NdNamed, api.NdFunc:
		return n.Text == "eval" || n.Text == "arguments"
	case api.NdUnary:
		return n.Text == "delete" && t[s.at+1].Kind == api.NdId
	case api.NdReturn:
		return t[s.scope].Kind == api.NdProgram
	case api.NdBreak, api.NdContinue:
		return !s.loop
	}
	return false
}

// isAgain tells whether the node at s has a name that may be had once; it is one that was met from then on.
func isAgain(t []api.Node, s spot, met map[name]struct{}) bool {
	switch t[s.at].Kind {
	case api.NdParam, api.NdProp:
		m := name{s.above, t[s.at].Text}
		_, known := met[m]
		met[m] = struct{}{}
		return known
	}
	return false
}
