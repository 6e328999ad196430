package lex

import (
	"strings"

	"septum/api"
	"septum/bits"
	"septum/utf"
)

const (
	longestSign = 4
	codeLength  = 4  // digits behind \u
	noDigit     = 16 // not below any base that is read
)

// fault is what a reader gives up with.
type fault struct {
	at int
	e  api.Errno
}

// reader reads a source in which a sign stands everywhere.
type reader struct {
	s     string
	begin int // where the token that is read begins: a fault is told there
	at    int // all ahead of it is read
	open  int // brackets
}

func (r *reader) tokens() []api.Token {
	var l []api.Token
	for r.skip(); r.at < len(r.s); r.skip() {
		l = append(l, r.token())
	}
	return l
}

// skip goes on to where the next token begins, or to the end.
func (r *reader) skip() {
between:
	for r.at < len(r.s) {
		switch r.s[r.at] {
		case ' ', '\t', '\r', '\n':
			r.at++
		case '/':
			goto slash
		default:
			return
		}
	}
	return
slash:
	// A slash may be a sign, too.
	if size := r.remark(); size > 0 {
		r.at += size
		goto between
	}
}

// remark tells how many bytes the remark has that stands there; 0, if none does.
func (r *reader) remark() int {
	rest := r.s[r.at:]
	switch {
	case strings.HasPrefix(rest, "//"):
		line, _, _ := strings.Cut(rest, "\n")
		return len(line)
	case strings.HasPrefix(rest, "/*"):
		inner, _, closed := strings.Cut(rest[2:], "*/")
		if !closed {
			r.begin = r.at
			r.giveUp(api.ErrToken)
		}
		return len(inner) + 4
	}
	return 0
}

func (r *reader) token() api.Token {
	r.begin = r.at
	t := api.Token{At: r.begin}
	switch c := r.s[r.at]; {
	case isDigit(c):
		t.Kind, t.Bits = api.TkNum, r.number()
	case isNamePart(c):
		t.Kind, t.Text = r.name()
	case c == '\'', c == '"':
		t.Kind, t.Text = api.TkText, r.text()
	default:
		t.Kind, t.Text = api.TkSign, r.sign()
	}
	return t
}

// number takes what stands behind the number for a part of it: no number may have it there.
func (r *reader) number() uint64 {
	n, ok := whole(r.nameParts())
	if !ok {
		r.giveUp(api.ErrToken)
	}
	return bits.Of(n)
}

func (r *reader) name() (kind int, text string) {
	text = r.nameParts()
	if Word(text) {
		return api.TkWord, text
	}
	return api.TkName, text
}

// text tells what the text means that stands there.
func (r *reader) text() string {
	var out strings.Builder
	quote := r.take()
	for c := r.take(); c != quote; c = r.take() {
		switch {
		case c == '\\':
			out.WriteString(r.escape())
		case c < ' ':
			r.giveUp(api.ErrToken)
		default:
			out.WriteByte(c)
		}
	}
	return out.String()
}

// escape tells what stands for a sign behind \.
func (r *reader) escape() string {
	switch c := r.take(); c {
	case '\\', '\'', '"':
		return string(rune(c))
	case 'n':
		return "\n"
	case 'r':
		return "\r"
	case 't':
		return "\t"
	case '0':
		return "\x00"
	case 'u':
		return r.code()
	}
	r.giveUp(api.ErrToken)
	return ""
}

// code tells the sign whose number stands behind \u.
func (r *reader) code() string {
	sign := 0
	for range codeLength {
		d := digit(r.take())
		if d == noDigit {
			r.giveUp(api.ErrToken)
		}
		sign = sign<<4 | d
	}
	s, e := utf.Put(sign)
	if e != api.OK {
		r.giveUp(api.ErrToken)
	}
	return s
}

// sign takes the longest sign that stands there.
func (r *reader) sign() string {
	for size := min(longestSign, len(r.s)-r.at); size > 0; size-- {
		if s := r.s[r.at : r.at+size]; isSign(s) {
			r.bracket(s)
			r.at += size
			return strings.Clone(s)
		}
	}
	r.giveUp(api.ErrToken)
	return ""
}

// bracket counts what is open, whichever brackets they are: what closes what is told where trees are read.
func (r *reader) bracket(s string) {
	switch s {
	case "{", "(", "[":
		if r.open == api.MaxOpen {
			r.giveUp(api.ErrDeep)
		}
		r.open++
	case "}", ")", "]":
		r.open = max(r.open-1, 0)
	}
}

// nameParts takes all letters, digits, _ and $ that stand there.
func (r *reader) nameParts() string {
	first := r.at
	for r.at < len(r.s) && isNamePart(r.s[r.at]) {
		r.at++
	}
	// A piece of the source would keep all of it.
	return strings.Clone(r.s[first:r.at])
}

// take goes on by a byte: only texts need it, and none goes beyond the end.
func (r *reader) take() byte {
	if r.at == len(r.s) {
		r.giveUp(api.ErrToken)
	}
	c := r.s[r.at]
	r.at++
	return c
}

func (r *reader) giveUp(e api.Errno) {
	panic(fault{r.begin, e})
}

// whole tells the number that all of s is, if it is one; s begins with a digit.
func whole(s string) (int, bool) {
	base := 10
	switch {
	case s == "0":
		return 0, true
	case strings.HasPrefix(s, "0x"), strings.HasPrefix(s, "0X"):
		base, s = 16, s[2:]
	case s[0] == '0':
		return 0, false
	}
	n := 0
	for i := range len(s) {
		d := digit(s[i])
		if d >= base {
			return 0, false
		}
		n = n*base + d
		// Asked digit by digit, so that n never runs over.
		if n > api.MaxWhole {
			return 0, false
		}
	}
	return n, s != ""
}

// digit tells what a digit counts, noDigit of any other byte.
func digit(c byte) int {
	switch {
	case isDigit(c):
		return int(c - '0')
	case 'a' <= c && c <= 'f':
		return int(c-'a') + 10
	case 'A' <= c && c <= 'F':
		return int(c-'A') + 10
	}
	return noDigit
}

func isDigit(c byte) bool {
	return '0' <= c && c <= '9'
}

func isNamePart(c byte) bool {
	return 'a' <= c && c <= 'z' || 'A' <= c && c <= 'Z' || isDigit(c) || c == '_' || c == '$'
}

func isSign(s string) bool {
	switch s {
	case "{", "}", "(", ")", "[", "]", ".", ";", ",", "?", ":", "~",
		"<", ">", "<=", ">=", "===", "!==", "+", "-", "*", "/", "%", "++", "--",
		"<<", ">>", ">>>", "&", "|", "^", "!", "&&", "||",
		"=", "+=", "-=", "*=", "/=", "%=", "&=", "|=", "^=", "<<=", ">>=", ">>>=":
		return true
	}
	return false
}
