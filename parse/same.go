package parse

import (
	"slices"

	"jigsaw/api"
)

// Same: are two programs alike, field by field? Lists of nothing are the same.
func Same(a, b api.Program) bool {
	return a.Goal == b.Goal && sameExpr(a.Of, b.Of) && sameExprs(a.Anns, b.Anns) &&
		slices.EqualFunc(a.Decls, b.Decls, sameDecl) && slices.EqualFunc(a.Cons, b.Cons, sameItem)
}

func sameDecl(a, b api.Decl) bool {
	return a.Name == b.Name && a.Has == b.Has && sameType(a.Type, b.Type) && sameExpr(a.Value, b.Value) && sameExprs(a.Anns, b.Anns)
}

func sameType(a, b api.Type) bool {
	return a.Var == b.Var && a.Array == b.Array && a.Size == b.Size && a.Kind == b.Kind && a.Full == b.Full && slices.Equal(a.Dom, b.Dom)
}

func sameItem(a, b api.Item) bool {
	return a.Name == b.Name && sameExprs(a.Args, b.Args) && sameExprs(a.Anns, b.Anns)
}

func sameExprs(a, b []api.Expr) bool {
	return slices.EqualFunc(a, b, sameExpr)
}

func sameExpr(a, b api.Expr) bool {
	return a.Kind == b.Kind && a.N == b.N && a.M == b.M && a.Name == b.Name && sameExprs(a.L, b.L)
}

// Copy is another program as it is.
func Copy(p api.Program) api.Program {
	p.Decls = slices.Clone(p.Decls)
	for i, d := range p.Decls {
		d.Type.Dom = slices.Clone(d.Type.Dom)
		d.Anns = copyExprs(d.Anns)
		d.Value = copyExpr(d.Value)
		p.Decls[i] = d
	}
	p.Cons = slices.Clone(p.Cons)
	for i, x := range p.Cons {
		p.Cons[i] = api.Item{Name: x.Name, Args: copyExprs(x.Args), Anns: copyExprs(x.Anns)}
	}
	p.Anns = copyExprs(p.Anns)
	p.Of = copyExpr(p.Of)
	return p
}

func copyExprs(l []api.Expr) []api.Expr {
	out := slices.Clone(l)
	for i, e := range out {
		out[i] = copyExpr(e)
	}
	return out
}

func copyExpr(e api.Expr) api.Expr {
	e.L = copyExprs(e.L)
	return e
}
