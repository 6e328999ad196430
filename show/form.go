package show

import (
	"strings"

	"septum/api"
	"septum/bits"
	"septum/lex"
	"septum/syn"
)

// tree is a tree that may be, so that it is no deeper than calls may well be.
type tree []api.Node

// form writes the node i.
func (t tree) form(i int) string {
	n, kids := t[i], syn.Kids(t, i)
	switch n.Kind {
	case api.NdProgram:
		return t.each(kids, "\n")
	case api.NdBlock, api.NdBody:
		return "{ " + t.each(kids, " ") + "}"
	case api.NdVar:
		return "var " + row(kids, t.form) + ";"
	case api.NdDecl:
		return n.Text + optional(" = ", kids, t.operand)
	case api.NdCatch:
		return " catch (" + n.Text + ") " + t.form(kids[0])
	case api.NdFinal:
		return " finally " + t.form(kids[0])
	case api.NdParam:
		return n.Text
	case api.NdProp:
		return quoted(n.Text) + ": " + t.operand(kids[0])
	case api.NdNamed, api.NdFunc:
		last := len(kids) - 1
		return "function " + n.Text + "(" + row(kids[:last], t.form) + ") " + t.form(kids[last])
	}
	if rolesOf(n.Kind)&statement != 0 {
		return t.statement(n, kids)
	}
	return t.expression(n, kids)
}

// statement writes a statement but Block and Var.
func (t tree) statement(n api.Node, kids []int) string {
	switch n.Kind {
	case api.NdEmpty:
		return ";"
	case api.NdExpr:
		return "(" + t.form(kids[0]) + ");"
	case api.NdIf:
		return "if (" + t.form(kids[0]) + ") " + t.form(kids[1]) + optional(" else ", kids[2:], t.form)
	case api.NdWhile:
		return "while (" + t.form(kids[0]) + ") " + t.form(kids[1])
	case api.NdDo:
		return "do " + t.form(kids[0]) + " while (" + t.form(kids[1]) + ");"
	case api.NdFor:
		return "for (" + t.form(kids[0]) + t.part(kids[1]) + ";" + t.part(kids[2]) + ") " + t.form(kids[3])
	case api.NdBreak:
		return "break;"
	case api.NdContinue:
		return "continue;"
	case api.NdReturn:
		return "return" + optional(" ", kids, t.operand) + ";"
	case api.NdThrow:
		return "throw " + t.operand(kids[0]) + ";"
	case api.NdTry:
		return "try " + t.each(kids, "")
	}
	return ""
}

// expression writes an expression but a function.
func (t tree) expression(n api.Node, kids []int) string {
	switch n.Kind {
	case api.NdNum:
		return bits.Text(n.Bits)
	case api.NdText:
		return quoted(n.Text)
	case api.NdTrue:
		return "true"
	case api.NdFalse:
		return "false"
	case api.NdNull:
		return "null"
	case api.NdThis:
		return "this"
	case api.NdId:
		return n.Text
	case api.NdArray:
		return "[" + row(kids, t.operand) + "]"
	case api.NdObject:
		return "{" + row(kids, t.form) + "}"
	case api.NdDot:
		return t.operand(kids[0]) + "." + n.Text
	case api.NdIndex:
		return t.operand(kids[0]) + "[" + t.form(kids[1]) + "]"
	case api.NdCall:
		return t.called(kids)
	case api.NdNew:
		return "new " + t.called(kids)
	case api.NdUnary:
		return n.Text + " " + t.operand(kids[0])
	case api.NdUpdate:
		if n.Bits == 0 {
			return n.Text + t.operand(kids[0])
		}
		return t.operand(kids[0]) + n.Text
	case api.NdBinary, api.NdLogic, api.NdAssign:
		return t.operand(kids[0]) + " " + n.Text + " " + t.operand(kids[1])
	case api.NdCond:
		return t.operand(kids[0]) + " ? " + t.operand(kids[1]) + " : " + t.operand(kids[2])
	case api.NdComma:
		return row(kids, t.operand)
	}
	return ""
}

// operand writes an expression that stands beside others: between brackets, unless nothing can part it.
func (t tree) operand(i int) string {
	s := t.form(i)
	switch n := t[i]; n.Kind {
	case api.NdArray, api.NdObject, api.NdFunc:
		return s
	default:
		if n.N == 0 {
			return s
		}
	}
	return "(" + s + ")"
}

// part writes what stands ahead of a for's second semicolon, or behind it.
func (t tree) part(i int) string {
	if t[i].Kind == api.NdEmpty {
		return ""
	}
	return " " + t.form(i)
}

// called writes a callee, and its arguments.
func (t tree) called(kids []int) string {
	return t.operand(kids[0]) + "(" + row(kids[1:], t.operand) + ")"
}

// each writes nodes with that behind each of them.
func (t tree) each(kids []int, behind string) string {
	var out strings.Builder
	for _, k := range kids {
		out.WriteString(t.form(k))
		out.WriteString(behind)
	}
	return out.String()
}

// row writes nodes with commas between.
func row(kids []int, write func(int) string) string {
	parts := make([]string, len(kids))
	for i, k := range kids {
		parts[i] = write(k)
	}
	return strings.Join(parts, ", ")
}

// optional writes a node with that ahead of it, if there is one.
func optional(ahead string, kids []int, write func(int) string) string {
	if len(kids) == 0 {
		return ""
	}
	return ahead + write(kids[0])
}

func quoted(s string) string {
	return lex.Print(api.Token{Kind: api.TkText, Text: s})
}
