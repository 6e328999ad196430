package syn

import (
	"septum/api"
	"septum/bits"
)

// How tightly signs bind what stands about them: the loosest, and the tightest of those that are logic.
const (
	loosest    = 1
	logicLevel = 2
)

func (r *reader) expr() *node {
	x := r.assign()
	for r.skip(",") {
		x = newNode(api.NdComma, "", x, r.assign())
	}
	return x
}

func (r *reader) assign() *node {
	x := r.cond()
	op := r.token()
	if !isAssignOp(r.fixed()) {
		return x
	}
	// Asked ahead of what is assigned: the op is the token with which nothing goes on.
	needTarget(x, op)
	r.at++
	return newNode(api.NdAssign, op.Text, x, r.assign())
}

func (r *reader) cond() *node {
	x := r.binary(loosest)
	if !r.skip("?") {
		return x
	}
	yes := r.assign()
	r.need(":")
	return newNode(api.NdCond, "", x, yes, r.assign())
}

// binary reads operands with signs between that bind at least that tightly.
func (r *reader) binary(least int) *node {
	x := r.unary()
	for {
		sign := r.fixed()
		tight := level(sign)
		if tight < least {
			return x
		}
		r.at++
		kind := api.NdBinary
		if tight <= logicLevel {
			kind = api.NdLogic
		}
		// What binds as tightly is left to this loop, so that it goes from the left.
		x = newNode(kind, sign, x, r.binary(tight+1))
	}
}

func (r *reader) unary() *node {
	op := r.token()
	switch r.fixed() {
	case "delete", "void", "typeof", "+", "-", "~", "!":
		r.at++
		return newNode(api.NdUnary, op.Text, r.unary())
	case "++", "--":
		r.at++
		x := r.unary()
		needTarget(x, op)
		return newNode(api.NdUpdate, op.Text, x)
	}
	return r.postfix()
}

func (r *reader) postfix() *node {
	x := r.member()
	if !r.is("++") && !r.is("--") {
		return x
	}
	op := r.token()
	needTarget(x, op)
	r.at++
	n := newNode(api.NdUpdate, op.Text, x)
	n.bits = 1
	return n
}

func (r *reader) member() *node {
	x := r.primaryOrNew()
	for {
		switch r.fixed() {
		case ".", "[":
			x = r.part(x)
		case "(":
			x = newNode(api.NdCall, "", r.called(x)...)
		default:
			return x
		}
	}
}

func (r *reader) primaryOrNew() *node {
	if r.is("new") {
		return r.newObject()
	}
	return r.primary()
}

func (r *reader) newObject() *node {
	r.need("new")
	x := r.maker()
	if r.is("(") {
		return newNode(api.NdNew, "", r.called(x)...)
	}
	return newNode(api.NdNew, "", x)
}

// maker reads what stands behind new, ahead of its arguments: parts are taken of a primary alone.
func (r *reader) maker() *node {
	if r.is("new") {
		return r.newObject()
	}
	x := r.primary()
	for r.is(".") || r.is("[") {
		x = r.part(x)
	}
	return x
}

// part reads the . or [ behind x, and what it takes of x.
func (r *reader) part(x *node) *node {
	if r.skip(".") {
		return newNode(api.NdDot, r.key(), x)
	}
	r.need("[")
	index := r.expr()
	r.need("]")
	return newNode(api.NdIndex, "", x, index)
}

// called reads the arguments behind x, and tells both.
func (r *reader) called(x *node) []*node {
	r.need("(")
	return append([]*node{x}, r.list(")", r.assign)...)
}

func (r *reader) bracketed() *node {
	r.need("(")
	x := r.expr()
	r.need(")")
	return x
}

func (r *reader) primary() *node {
	t := r.token()
	switch t.Kind {
	case api.TkName:
		return r.leaf(api.NdId)
	case api.TkNum:
		return r.leaf(api.NdNum)
	case api.TkText:
		return r.leaf(api.NdText)
	}
	return r.fixedPrimary()
}

// fixedPrimary reads a primary that begins with a word or a sign.
func (r *reader) fixedPrimary() *node {
	switch r.fixed() {
	case "this":
		return r.constant(api.NdThis)
	case "null":
		return r.constant(api.NdNull)
	case "true":
		return r.constant(api.NdTrue)
	case "false":
		return r.constant(api.NdFalse)
	case "(":
		return r.bracketed()
	case "[":
		r.at++
		return newNode(api.NdArray, "", r.list("]", r.assign)...)
	case "{":
		r.at++
		return newNode(api.NdObject, "", r.list("}", r.prop)...)
	case "function":
		r.at++
		return r.function(api.NdFunc, r.optionalName())
	}
	r.giveUp()
	return nil
}

// leaf reads a token that is a node by itself.
func (r *reader) leaf(kind int) *node {
	t := r.token()
	r.at++
	return &node{kind: kind, text: t.Text, bits: t.Bits}
}

// constant reads a word that is a node by itself: its kind tells all.
func (r *reader) constant(kind int) *node {
	r.at++
	return newNode(kind, "")
}

func (r *reader) optionalName() string {
	if r.is("(") {
		return ""
	}
	return r.name()
}

func (r *reader) prop() *node {
	key := r.propKey()
	r.need(":")
	return newNode(api.NdProp, key, r.assign())
}

func (r *reader) propKey() string {
	t := r.token()
	switch t.Kind {
	case api.TkText:
		r.at++
		return t.Text
	case api.TkNum:
		r.at++
		return bits.Text(t.Bits)
	}
	return r.key()
}

// level tells how tightly a sign binds that stands between two operands; 0 of any other.
func level(sign string) int {
	switch sign {
	case "||":
		return loosest
	case "&&":
		return logicLevel
	case "|":
		return 3
	case "^":
		return 4
	case "&":
		return 5
	case "===", "!==":
		return 6
	case "<", ">", "<=", ">=", "instanceof", "in":
		return 7
	case "<<", ">>", ">>>":
		return 8
	case "+", "-":
		return 9
	case "*", "/", "%":
		return 10
	}
	return 0
}

func isAssignOp(sign string) bool {
	switch sign {
	case "=", "+=", "-=", "*=", "/=", "%=", "&=", "|=", "^=", "<<=", ">>=", ">>>=":
		return true
	}
	return false
}
