package show

import (
	"slices"

	"septum/api"
	"septum/bits"
	"septum/lex"
	"septum/utf"
)

// As what a node may stand below another.
const (
	element = 1 << iota
	statement
	expression
	target // what a value may be assigned to
	start  // what a for begins with
	part   // what stands between a for's semicolons, and behind them
	block
	decl
	catch
	final
	param
	body
	prop
)

// The same for each kind. A program is nobody's kid.
var roles = [...]int{
	api.NdProgram:  0,
	api.NdBlock:    element | statement | block,
	api.NdVar:      element | statement | start,
	api.NdDecl:     decl,
	api.NdEmpty:    element | statement | start | part,
	api.NdExpr:     element | statement | start,
	api.NdIf:       element | statement,
	api.NdWhile:    element | statement,
	api.NdDo:       element | statement,
	api.NdFor:      element | statement,
	api.NdBreak:    element | statement,
	api.NdContinue: element | statement,
	api.NdReturn:   element | statement,
	api.NdThrow:    element | statement,
	api.NdTry:      element | statement,
	api.NdCatch:    catch,
	api.NdFinal:    final,
	api.NdNamed:    element,
	api.NdParam:    param,
	api.NdBody:     body,
	api.NdNum:      expression | part,
	api.NdText:     expression | part,
	api.NdTrue:     expression | part,
	api.NdFalse:    expression | part,
	api.NdNull:     expression | part,
	api.NdThis:     expression | part,
	api.NdId:       expression | part | target,
	api.NdArray:    expression | part,
	api.NdObject:   expression | part,
	api.NdProp:     prop,
	api.NdFunc:     expression | part,
	api.NdDot:      expression | part | target,
	api.NdIndex:    expression | part | target,
	api.NdCall:     expression | part,
	api.NdNew:      expression | part,
	api.NdUnary:    expression | part,
	api.NdUpdate:   expression | part,
	api.NdBinary:   expression | part,
	api.NdLogic:    expression | part,
	api.NdCond:     expression | part,
	api.NdAssign:   expression | part,
	api.NdComma:    expression | part,
}

func rolesOf(kind int) int {
	if kind < 0 || kind >= len(roles) {
		return 0
	}
	return roles[kind]
}

// mayBe tells whether the node i may be, whatever is wrong with those below it.
func mayBe(t []api.Node, i int) bool {
	n := t[i]
	kids, size := kidsOf(t, i)
	if size == 0 || n.Size != size || !isText(n) || !isBits(n) {
		return false
	}
	below := make([]int, len(kids))
	for k, at := range kids {
		below[k] = rolesOf(t[at].Kind)
	}
	if !mayHave(n.Kind, below) {
		return false
	}
	// Else the open statement would take this one's else.
	return n.Kind != api.NdIf || len(kids) == 2 || !isOpen(t, kids[1])
}

// kidsOf tells where the kids of the node i stand, and what it and they come to; nil and 0, if they do
// not stand within the list. It is asked of lists that may be no trees, other than syn.Kids.
func kidsOf(t []api.Node, i int) (kids []int, size int) {
	if t[i].N < 0 {
		return nil, 0
	}
	at := i + 1
	for range t[i].N {
		// Asked like this, since a size may be any number.
		if at == len(t) || t[at].Size < 1 || t[at].Size > len(t)-at {
			return nil, 0
		}
		kids = append(kids, at)
		at += t[at].Size
	}
	return kids, at - i
}

// isOpen tells whether an else behind the statement i would be one within it.
func isOpen(t []api.Node, i int) bool {
	for {
		switch t[i].Kind {
		case api.NdIf:
			if t[i].N == 2 {
				return true
			}
		case api.NdWhile, api.NdFor:
		default:
			return false
		}
		kids, _ := kidsOf(t, i)
		if len(kids) == 0 {
			return false
		}
		i = kids[len(kids)-1]
	}
}

// mayHave tells whether a node of that kind may have kids of those roles.
func mayHave(kind int, kids []int) bool {
	switch kind {
	case api.NdProgram, api.NdBody:
		return all(kids, element)
	case api.NdBlock:
		return all(kids, statement)
	case api.NdVar:
		return len(kids) > 0 && all(kids, decl)
	case api.NdIf:
		if len(kids) == 3 {
			return are(kids, expression, statement, statement)
		}
		fallthrough
	case api.NdWhile:
		return are(kids, expression, statement)
	case api.NdDo:
		return are(kids, statement, expression)
	case api.NdFor:
		return are(kids, start, part, part, statement)
	case api.NdDecl, api.NdReturn:
		if len(kids) == 0 {
			return true
		}
		fallthrough
	case api.NdExpr, api.NdThrow:
		return are(kids, expression)
	case api.NdTry:
		return are(kids, block, catch|final) || are(kids, block, catch, final)
	case api.NdCatch, api.NdFinal:
		return are(kids, block)
	case api.NdNamed, api.NdFunc:
		last := len(kids) - 1
		return last >= 0 && all(kids[:last], param) && are(kids[last:], body)
	case api.NdEmpty, api.NdBreak, api.NdContinue, api.NdParam:
		return len(kids) == 0
	}
	return mayOperate(kind, kids)
}

// mayOperate is mayHave for props, and for expressions but functions.
func mayOperate(kind int, kids []int) bool {
	switch kind {
	case api.NdNum, api.NdText, api.NdTrue, api.NdFalse, api.NdNull, api.NdThis, api.NdId:
		return len(kids) == 0
	case api.NdCall, api.NdNew:
		if len(kids) == 0 {
			return false
		}
		fallthrough
	case api.NdArray:
		return all(kids, expression)
	case api.NdObject:
		return all(kids, prop)
	case api.NdProp, api.NdDot, api.NdUnary:
		return are(kids, expression)
	case api.NdUpdate:
		return are(kids, target)
	case api.NdIndex, api.NdBinary, api.NdLogic, api.NdComma:
		return are(kids, expression, expression)
	case api.NdAssign:
		return are(kids, target, expression)
	case api.NdCond:
		return are(kids, expression, expression, expression)
	}
	return false
}

// all tells whether each of the kids may stand as that.
func all(kids []int, role int) bool {
	for _, k := range kids {
		if k&role == 0 {
			return false
		}
	}
	return true
}

// are tells whether there is just one kid for each of these, one after the other.
func are(kids []int, wanted ...int) bool {
	if len(kids) != len(wanted) {
		return false
	}
	for i, role := range wanted {
		if kids[i]&role == 0 {
			return false
		}
	}
	return true
}

// isText tells whether the node may have its Text.
func isText(n api.Node) bool {
	switch n.Kind {
	case api.NdFunc:
		if n.Text == "" {
			return true
		}
		fallthrough
	case api.NdDecl, api.NdCatch, api.NdNamed, api.NdParam, api.NdId:
		return lex.Name(n.Text)
	case api.NdDot:
		return lex.Name(n.Text) || lex.Word(n.Text)
	case api.NdText, api.NdProp:
		_, e := utf.Check(n.Text)
		return e == api.OK
	case api.NdUnary, api.NdUpdate, api.NdBinary, api.NdLogic, api.NdAssign:
		return slices.Contains(signsOf(n.Kind), n.Text)
	}
	return n.Text == ""
}

// signsOf tells what may stand beside the operands of an expression of that kind.
func signsOf(kind int) []string {
	switch kind {
	case api.NdUnary:
		return []string{"delete", "void", "typeof", "+", "-", "~", "!"}
	case api.NdUpdate:
		return []string{"++", "--"}
	case api.NdBinary:
		return []string{
			"|", "^", "&", "===", "!==", "<", ">", "<=", ">=", "instanceof", "in",
			"<<", ">>", ">>>", "+", "-", "*", "/", "%",
		}
	case api.NdLogic:
		return []string{"||", "&&"}
	case api.NdAssign:
		return []string{"=", "+=", "-=", "*=", "/=", "%=", "&=", "|=", "^=", "<<=", ">>=", ">>>="}
	}
	return nil
}

// isBits tells whether the node may have its Bits.
func isBits(n api.Node) bool {
	switch n.Kind {
	case api.NdNum:
		whole, ok := bits.Whole(n.Bits)
		// Of the noughts this asks for the one without a sign.
		return ok && whole >= 0 && n.Bits == bits.Of(whole)
	case api.NdUpdate:
		return n.Bits <= 1
	}
	return n.Bits == 0
}
