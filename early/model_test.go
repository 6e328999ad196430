package early

import (
	"slices"

	"septum/api"
)

// model is a tree that may be, in which each node knows whose kid it is. What the chapter says of a node is
// asked by going upwards from it, other than in the program, which goes downwards.
type model struct {
	t     []api.Node
	above []int // -1 of the first node
}

func newModel(t []api.Node) model {
	m := model{t, slices.Repeat([]int{-1}, len(t))}
	for i := range t {
		for _, kid := range m.kids(i) {
			m.above[kid] = i
		}
	}
	return m
}

func (m model) kids(i int) []int {
	var l []int
	for at := i + 1; len(l) < m.t[i].N; at += m.t[at].Size {
		l = append(l, at)
	}
	return l
}

func (m model) is(i int, kinds ...int) bool { return slices.Contains(kinds, m.t[i].Kind) }

// scope is what the chapter says the node i is within.
func (m model) scope(i int) int {
	up := m.above[i]
	if m.is(i, api.NdParam) {
		kids := m.kids(up)
		return kids[len(kids)-1]
	}
	for !m.is(up, api.NdProgram, api.NdBody) {
		up = m.above[up]
	}
	return up
}

// looped tells whether i stands in the statement of a loop of its own scope.
func (m model) looped(i int) bool {
	for scope := m.scope(i); m.above[i] != scope; i = m.above[i] {
		kids := m.kids(m.above[i])
		if m.is(m.above[i], api.NdWhile, api.NdFor) && i == kids[len(kids)-1] || m.is(m.above[i], api.NdDo) && i == kids[0] {
			return true
		}
	}
	return false
}

// again tells whether one of its kind ahead of i, below the same node, has its Text.
func (m model) again(i int) bool {
	return slices.ContainsFunc(m.kids(m.above[i]), func(k int) bool { return k < i && m.t[k].Kind == m.t[i].Kind && m.t[k].Text == m.t[i].Text })
}

// faults tells which of the chapter's faults, in its order, the node i has.
func (m model) faults(i int) []int {
	var l []int
	for k, is := range []bool{
		m.is(i, api.NdId, api.NdDecl, api.NdParam, api.NdCatch, api.NdNamed, api.NdFunc) && slices.Contains([]string{"eval", "arguments"}, m.t[i].Text),
		m.is(i, api.NdParam) && m.again(i),
		m.is(i, api.NdProp) && m.again(i),
		m.is(i, api.NdUnary) && m.t[i].Text == "delete" && m.is(m.kids(i)[0], api.NdId),
		m.is(i, api.NdReturn) && m.scope(i) == 0,
		m.is(i, api.NdBreak, api.NdContinue) && !m.looped(i),
	} {
		if is {
			l = append(l, k)
		}
	}
	return l
}

// check tells the place of the first fault, and what it is; -1, if there is none.
func (m model) check() (at int, faults []int) {
	for i := range m.t {
		if faults = m.faults(i); faults != nil {
			return i, faults
		}
	}
	return -1, nil
}

func (m model) vars(scope int) []string {
	var l []string
	for i := 1; i < len(m.t); i++ {
		if m.is(i, api.NdDecl) && m.scope(i) == scope && !slices.Contains(l, m.t[i].Text) {
			l = append(l, m.t[i].Text)
		}
	}
	return l
}

func (m model) funcs(scope int) []int {
	var l []int
	for _, kid := range m.kids(scope) {
		if m.is(kid, api.NdNamed) {
			l = append(l, kid)
		}
	}
	return l
}
