package syn

import "septum/api"

// fault is what a reader gives up with: the place of the token with which no program goes on.
type fault struct{ at int }

// reader reads a tree off tokens. The last one stands for the source's end: it is of no kind, and
// nothing takes it.
type reader struct {
	l  []api.Token
	at int
}

func (r *reader) token() api.Token {
	return r.l[r.at]
}

// fixed tells the word or the sign that stands there; nothing, if another token does. A text may be
// spelt as a sign is, so that the kind has to be asked.
func (r *reader) fixed() string {
	switch t := r.token(); t.Kind {
	case api.TkWord, api.TkSign:
		return t.Text
	}
	return ""
}

// is tells whether that word or sign stands there.
func (r *reader) is(fixed string) bool {
	return r.fixed() == fixed
}

// skip goes on behind that word or sign, if it stands there.
func (r *reader) skip(fixed string) bool {
	if !r.is(fixed) {
		return false
	}
	r.at++
	return true
}

// need goes on behind that word or sign, which has to stand there.
func (r *reader) need(fixed string) {
	if !r.skip(fixed) {
		r.giveUp()
	}
}

// name takes a name, which has to stand there.
func (r *reader) name() string {
	t := r.token()
	if t.Kind != api.TkName {
		r.giveUp()
	}
	r.at++
	return t.Text
}

// key takes a name or a word.
func (r *reader) key() string {
	t := r.token()
	switch t.Kind {
	case api.TkName, api.TkWord:
		r.at++
		return t.Text
	}
	r.giveUp()
	return ""
}

// until reads items up to that sign, and goes on behind it.
func (r *reader) until(end string, item func() *node) []*node {
	var l []*node
	for !r.skip(end) {
		l = append(l, item())
	}
	return l
}

// row reads items with commas between, one at least.
func (r *reader) row(item func() *node) []*node {
	l := []*node{item()}
	for r.skip(",") {
		l = append(l, item())
	}
	return l
}

// list reads a row, or nothing, up to that sign, and goes on behind it.
func (r *reader) list(end string, item func() *node) []*node {
	if r.skip(end) {
		return nil
	}
	l := r.row(item)
	r.need(end)
	return l
}

// ended goes on behind the semicolon that has to stand behind n.
func (r *reader) ended(n *node) *node {
	r.need(";")
	return n
}

func (r *reader) giveUp() {
	panic(fault{r.token().At})
}

// needTarget gives up at an op, unless a value may be assigned to n.
func needTarget(n *node, op api.Token) {
	if !n.isTarget() {
		panic(fault{op.At})
	}
}
