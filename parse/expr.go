package parse

import "jigsaw/api"

// anns is the annotations that stand here.
func (r *reader) anns() []api.Expr {
	var out []api.Expr
	for r.take("::") {
		out = append(out, r.expr())
	}
	return out
}

func (r *reader) expr() api.Expr {
	t := r.token()
	switch {
	case t.Kind == api.TInt:
		return r.span()
	case t.Kind == api.TString:
		r.at++
		return api.Expr{Kind: api.EString, Name: t.Text[1 : len(t.Text)-1]}
	case r.take("false"):
		return api.Expr{Kind: api.EBool}
	case r.take("true"):
		return api.Expr{Kind: api.EBool, N: 1}
	case r.is("{"):
		return api.Expr{Kind: api.ESet, L: r.ints()}
	case r.is("["):
		return api.Expr{Kind: api.EArray, L: r.exprs("]")}
	}
	return r.named()
}

// span is a number, or the numbers from one to another.
func (r *reader) span() api.Expr {
	n := r.number()
	if r.take("..") {
		return api.Expr{Kind: api.ERange, N: n, M: r.number()}
	}
	return api.Expr{Kind: api.EInt, N: n}
}

// named is a name, an element of an array, or a call.
func (r *reader) named() api.Expr {
	e := api.Expr{Kind: api.EName, Name: r.name()}
	switch {
	case r.is("["):
		r.enter()
		e.Kind, e.N = api.EAt, r.number()
		r.need("]")
		r.open--
	case r.is("("):
		e.Kind, e.L = api.ECall, r.exprs(")")
	}
	return e
}

// enter goes on behind a bracket of an expression.
func (r *reader) enter() {
	if r.open >= api.MaxNest {
		r.fail(api.ErrState)
	}
	r.open++
	r.at++
}

// exprs is the expressions in the brackets that begin here.
func (r *reader) exprs(end string) []api.Expr {
	var l []api.Expr
	r.enter()
	r.list(end, r.checkExpr, func() { l = append(l, r.expr()) })
	r.open--
	return l
}

// ints is the numbers in the brackets that begin here, as they stand.
func (r *reader) ints() []api.Expr {
	var l []api.Expr
	r.enter()
	r.list("}", r.checkInt, func() { l = append(l, api.Expr{Kind: api.EInt, N: r.number()}) })
	r.open--
	return l
}

// checkExpr throws ErrParse at a token with which no expression begins.
func (r *reader) checkExpr() {
	t := r.token()
	switch {
	case t.Kind == api.TInt, t.Kind == api.TString, isName(t):
		return
	}
	switch t.Text {
	case "true", "false", "{", "[":
		return
	}
	r.fail(api.ErrParse)
}
