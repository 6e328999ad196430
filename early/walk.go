package early

import (
	"iter"

	"septum/api"
)

// spot is where a node stands.
type spot struct {
	at    int  // its own place
	above int  // that of the node whose kid it is
	scope int  // that of the innermost scope above it
	loop  bool // whether it stands in a loop within that scope
	level int  // how far below the first one it is
}

// ahead tells where the kids of a node n that stands at s stand, but for their own places.
func (s spot) ahead(n api.Node) spot {
	s.above = s.at
	s.level++
	switch n.Kind {
	case api.NdProgram, api.NdBody:
		s.scope, s.loop = s.at, false
	case api.NdWhile, api.NdDo, api.NdFor:
		// All its kids: but for its statement they hold statements only within a scope of their own.
		s.loop = true
	}
	return s
}

// below tells where each node below the node i stands, from the front on. Each is met once, and none
// below the greatest level of a tree, so that it ends soon of a list that is no tree, too.
func below(t []api.Node, i int) iter.Seq[spot] {
	return func(yield func(spot) bool) {
		if i < 0 || i >= len(t) {
			return
		}
		next := i + 1
		var kids func(of spot) bool
		kids = func(of spot) bool {
			s := of.ahead(t[of.at])
			for range t[of.at].N {
				if next == len(t) || s.level == api.MaxDepth {
					return false
				}
				s.at = next
				next++
				if !yield(s) || !kids(s) {
					return false
				}
			}
			return true
		}
		kids(spot{at: i})
	}
}
