package parse

import "jigsaw/api"

// fault is what is thrown where a program can not go on: which error it is, and, of a token, its place.
type fault struct {
	e  api.Errno
	at int
}

// reader goes through the tokens of a program, from the left. No token's text is that of one of another kind, so texts alone tell signs and words apart. The end is taken by nobody, so that there is always a token.
type reader struct {
	tokens []api.Token
	at     int
	open   int // brackets of the expression around
}

func (r *reader) token() api.Token {
	return r.tokens[r.at]
}

func (r *reader) is(text string) bool {
	return r.token().Text == text
}

// take goes on behind a sign or word, if it stands here.
func (r *reader) take(text string) bool {
	if !r.is(text) {
		return false
	}
	r.at++
	return true
}

// need goes on behind a sign or word, which must stand here.
func (r *reader) need(text string) {
	if !r.take(text) {
		r.fail(api.ErrParse)
	}
}

func (r *reader) fail(e api.Errno) {
	panic(fault{e: e, at: r.token().At})
}

// refuse throws ErrMore at a word that would be right here in all of FlatZinc, but is not in the fragment.
func (r *reader) refuse(word string) {
	if r.is(word) {
		r.fail(api.ErrMore)
	}
}

// room throws ErrFull here, if there are as many already as there may be.
func (r *reader) room(have, most int) {
	if have >= most {
		r.fail(api.ErrFull)
	}
}

func (r *reader) checkInt() {
	if r.token().Kind != api.TInt {
		r.fail(api.ErrParse)
	}
}

func (r *reader) number() int64 {
	r.checkInt()
	n := r.token().N
	r.at++
	return n
}

func (r *reader) name() string {
	if !isName(r.token()) {
		r.fail(api.ErrParse)
	}
	name := r.token().Text
	r.at++
	return name
}

// isName: is a token a word that the grammar has no other use for?
func isName(t api.Token) bool {
	switch t.Text {
	case "true", "false", "bool", "int", "float", "set", "of", "var", "array", "constraint", "solve", "satisfy", "minimize", "maximize", "predicate":
		return false
	}
	return t.Kind == api.TWord
}

// list reads elements with commas between, and the end behind them. What check throws at an element's first token goes ahead of there being no room for it.
func (r *reader) list(end string, check, element func()) {
	if r.take(end) {
		return
	}
elements:
	for n := 0; ; n++ {
		check()
		r.room(n, api.MaxArray)
		element()
		switch {
		case r.take(end):
			break elements
		case !r.take(","):
			r.fail(api.ErrParse)
		}
	}
}
