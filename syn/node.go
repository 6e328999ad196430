package syn

import "septum/api"

// node is a node while a tree is made.
type node struct {
	kind int
	text string
	bits uint64
	kids []*node
}

func newNode(kind int, text string, kids ...*node) *node {
	return &node{kind: kind, text: text, kids: kids}
}

// lay lays n, and all below it, behind t.
func (n *node) lay(t []api.Node) []api.Node {
	at := len(t)
	t = append(t, api.Node{Kind: n.kind, N: len(n.kids), Text: n.text, Bits: n.bits})
	for _, kid := range n.kids {
		t = kid.lay(t)
	}
	t[at].Size = len(t) - at
	return t
}

// isTarget tells whether a value may be assigned to n.
func (n *node) isTarget() bool {
	switch n.kind {
	case api.NdId, api.NdDot, api.NdIndex:
		return true
	}
	return false
}
