package parse

import "jigsaw/api"

func (r *reader) program() api.Program {
	p := api.Program{Decls: r.decls(), Cons: r.items()}
	r.need("solve")
	p.Anns = r.anns()
	switch {
	case r.take("minimize"):
		p.Goal, p.Of = api.Minimize, r.expr()
	case r.take("maximize"):
		p.Goal, p.Of = api.Maximize, r.expr()
	default:
		r.need("satisfy")
	}
	r.need(";")
	r.refuse("predicate")
	if r.token().Kind != api.TEnd {
		r.fail(api.ErrParse)
	}
	return p
}

func (r *reader) decls() []api.Decl {
	var out []api.Decl
	for r.beginsDecl() {
		r.room(len(out), api.MaxVars)
		out = append(out, r.decl())
	}
	return out
}

// beginsDecl: does a declaration begin here? A number that begins one is looked at at once: that it can not be in a dom goes ahead of there being too many declarations.
func (r *reader) beginsDecl() bool {
	r.refuse("float")
	r.refuse("predicate")
	if r.token().Kind == api.TInt {
		r.checkDomInt()
		return true
	}
	switch r.token().Text {
	case "bool", "int", "set", "var", "array", "{":
		return true
	}
	return false
}

func (r *reader) decl() api.Decl {
	d := api.Decl{Type: r.kind()}
	r.need(":")
	d.Name = r.name()
	d.Anns = r.anns()
	if r.take("=") {
		d.Has, d.Value = true, r.expr()
	}
	r.need(";")
	return d
}

// kind is a declaration's type.
func (r *reader) kind() api.Type {
	var t api.Type
	if r.take("array") {
		t.Array, t.Size = true, r.size()
		r.need("of")
	}
	t.Var = r.take("var")
	r.refuse("float")
	if r.take("bool") {
		t.Kind = api.YBool
		return t
	}
	t.Kind = api.YInt
	if r.take("set") {
		r.need("of")
		r.refuse("float")
		t.Kind = api.YSet
	}
	if !r.take("int") {
		t.Full, t.Dom = true, r.dom()
	}
	return t
}

// size is how many elements an array's type has, with the brackets around. A token that is no number has N 0.
func (r *reader) size() int64 {
	r.need("[")
	if r.token().N != 1 {
		r.fail(api.ErrParse)
	}
	r.at++
	r.need("..")
	if n := r.token().N; n < 0 || n > api.MaxArray {
		r.fail(api.ErrSize)
	}
	n := r.number()
	r.need("]")
	return n
}

// dom is the values of a dom, as ranges.
func (r *reader) dom() []api.Range {
	if r.take("{") {
		var l []int64
		r.list("}", r.checkDomInt, func() { l = append(l, r.number()) })
		return ofValues(l)
	}
	lo := r.domInt()
	r.need("..")
	hi := r.domInt()
	if lo > hi {
		return nil
	}
	return []api.Range{{Lo: lo, Hi: hi}}
}

func (r *reader) domInt() int64 {
	r.checkDomInt()
	return r.number()
}

func (r *reader) checkDomInt() {
	r.checkInt()
	if n := r.token().N; n < -api.Big || n > api.Big {
		r.fail(api.ErrArg)
	}
}

// items is the constraints.
func (r *reader) items() []api.Item {
	var out []api.Item
	for r.is("constraint") {
		r.room(len(out), api.MaxCons)
		out = append(out, r.item())
		r.refuse("predicate")
	}
	return out
}

func (r *reader) item() api.Item {
	r.need("constraint")
	x := api.Item{Name: r.name()}
	if !r.is("(") {
		r.fail(api.ErrParse)
	}
	x.Args = r.exprs(")")
	x.Anns = r.anns()
	r.need(";")
	return x
}
