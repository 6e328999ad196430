package syn

import "septum/api"

func (r *reader) program() *node {
	n := newNode(api.NdProgram, "")
	for r.at < len(r.l)-1 {
		n.kids = append(n.kids, r.element())
	}
	return n
}

func (r *reader) element() *node {
	if r.skip("function") {
		return r.function(api.NdNamed, r.name())
	}
	return r.statement()
}

// function reads what stands behind a function's name.
func (r *reader) function(kind int, name string) *node {
	r.need("(")
	n := newNode(kind, name, r.list(")", r.param)...)
	r.need("{")
	body := newNode(api.NdBody, "", r.until("}", r.element)...)
	n.kids = append(n.kids, body)
	return n
}

func (r *reader) param() *node {
	return newNode(api.NdParam, r.name())
}

func (r *reader) statement() *node {
	switch r.fixed() {
	case "{":
		return r.block()
	case "var":
		return r.ended(r.vars())
	case ";":
		return r.ended(newNode(api.NdEmpty, ""))
	case "if":
		return r.ifElse()
	case "while":
		return r.while()
	case "do":
		return r.doWhile()
	case "for":
		return r.forLoop()
	case "break":
		return r.leave(api.NdBreak)
	case "continue":
		return r.leave(api.NdContinue)
	case "return":
		return r.giveBack()
	case "throw":
		return r.throw()
	case "try":
		return r.try()
	case "function":
		// Only an element begins so: an expression that did could not be told from it.
		r.giveUp()
	}
	return r.ended(newNode(api.NdExpr, "", r.expr()))
}

func (r *reader) block() *node {
	r.need("{")
	return newNode(api.NdBlock, "", r.until("}", r.statement)...)
}

func (r *reader) vars() *node {
	r.need("var")
	return newNode(api.NdVar, "", r.row(r.decl)...)
}

func (r *reader) decl() *node {
	n := newNode(api.NdDecl, r.name())
	if r.skip("=") {
		n.kids = append(n.kids, r.assign())
	}
	return n
}

func (r *reader) ifElse() *node {
	r.need("if")
	n := newNode(api.NdIf, "", r.bracketed(), r.statement())
	if r.skip("else") {
		n.kids = append(n.kids, r.statement())
	}
	return n
}

func (r *reader) while() *node {
	r.need("while")
	return newNode(api.NdWhile, "", r.bracketed(), r.statement())
}

func (r *reader) doWhile() *node {
	r.need("do")
	body := r.statement()
	r.need("while")
	return r.ended(newNode(api.NdDo, "", body, r.bracketed()))
}

func (r *reader) forLoop() *node {
	r.need("for")
	r.need("(")
	return newNode(api.NdFor, "", r.forStart(), r.optional(";"), r.optional(")"), r.statement())
}

func (r *reader) forStart() *node {
	switch r.fixed() {
	case "var":
		return r.ended(r.vars())
	case ";":
		return r.ended(newNode(api.NdEmpty, ""))
	}
	return r.ended(newNode(api.NdExpr, "", r.expr()))
}

// optional reads an expression, or nothing, up to that sign, and goes on behind it.
func (r *reader) optional(end string) *node {
	if r.skip(end) {
		return newNode(api.NdEmpty, "")
	}
	x := r.expr()
	r.need(end)
	return x
}

// leave reads a statement that is one word.
func (r *reader) leave(kind int) *node {
	r.at++
	return r.ended(newNode(kind, ""))
}

func (r *reader) giveBack() *node {
	r.need("return")
	n := newNode(api.NdReturn, "")
	if !r.is(";") {
		n.kids = append(n.kids, r.expr())
	}
	return r.ended(n)
}

func (r *reader) throw() *node {
	r.need("throw")
	return r.ended(newNode(api.NdThrow, "", r.expr()))
}

func (r *reader) try() *node {
	r.need("try")
	n := newNode(api.NdTry, "", r.block())
	if r.is("catch") {
		n.kids = append(n.kids, r.catch())
	}
	if r.skip("finally") {
		n.kids = append(n.kids, newNode(api.NdFinal, "", r.block()))
	}
	if len(n.kids) == 1 {
		r.giveUp()
	}
	return n
}

func (r *reader) catch() *node {
	r.need("catch")
	r.need("(")
	name := r.name()
	r.need(")")
	return newNode(api.NdCatch, name, r.block())
}
