package post_test

import (
	"strings"
	"testing"

	"jigsaw/api"
	"jigsaw/post"
)

// P18.1: errors of the declarations and of the constraints, with their numbers.
func TestFaults(t *testing.T) {
	if post.InDecl != 1 || post.InCon != 2 || post.InSolve != 3 {
		t.Error("parts", post.InDecl, post.InCon, post.InSolve)
	}
	for _, c := range []struct {
		s        string
		e        api.Errno
		part, at int
	}{
		{"solve minimize 3;", api.ErrType, post.InSolve, 0},
		{"solve minimize z;", api.ErrName, post.InSolve, 0},
		{"int: n :: output_var = 1; solve satisfy;", api.ErrOut, post.InDecl, 0},
		{"var 1..2: x; int: x = 1; solve satisfy;", api.ErrTwice, post.InDecl, 1},
		{"var 1..2: x; var 1..2: y; var set of int: s; solve satisfy;", api.ErrMore, post.InDecl, 2},
		{"int: n = z; solve satisfy;", api.ErrName, post.InDecl, 0},
		{"int: n; solve satisfy;", api.ErrType, post.InDecl, 0},
		{"constraint foo(); solve satisfy;", api.ErrMore, post.InCon, 0},
		{"var 1..3: x; constraint foo(x); solve satisfy;", api.ErrMore, post.InCon, 0},
		{"var 1..3: x; constraint int_le(x, true); solve satisfy;", api.ErrType, post.InCon, 0},
		{"var 1..3: x; constraint int_le(x, 1); constraint int_le(z, 1); constraint foo(); solve satisfy;", api.ErrName, post.InCon, 1},
		{"var 1..3: x; constraint int_le(x, 1); constraint int_le(x, 1); constraint int_le(x); solve satisfy;", api.ErrType, post.InCon, 2},
	} {
		refused(t, read(t, c.s), c.e, c.part, c.at)
	}
	p := read(t, "var 1..3: x; constraint int_le(x, 1); solve satisfy;")
	p.Cons = append(p.Cons, api.Item{Name: "fzn_all_different_int", Args: []api.Expr{array(make([]api.Expr, api.MaxArray+1)...)}})
	refused(t, p, api.ErrSize, post.InCon, 1)
}

// P18.1: of several faults the one named first: each program has a fault of a later step than the one ahead, and all faults behind it.
func TestFirstFault(t *testing.T) {
	const (
		decls  = "var 1..3: x; int: n :: output_var = 1; "
		wrong  = "int: x = 1; "
		con    = "constraint int_le(z, 1); "
		search = "solve :: int_search(1) "
	)
	full := "var 1..3: y = x; " + strings.Repeat("constraint int_le(x, 1); ", api.MaxCons)
	last := "var 1..3: y = x; " + strings.Repeat("constraint int_le(x, 1); ", api.MaxCons-1)
	for _, c := range []struct {
		s        string
		e        api.Errno
		part, at int
	}{
		{decls + wrong + full + search + "minimize z;", api.ErrTwice, post.InDecl, 2},
		{decls + last + con + search + "minimize z;", api.ErrName, post.InCon, api.MaxCons - 1},
		{decls + con + search + "minimize z;", api.ErrName, post.InCon, 0},
		{decls + full + search + "minimize z;", api.ErrFull, post.InCon, 0},
		{decls + last + search + "minimize z;", api.ErrOut, post.InDecl, 1},
		{"var 1..3: x; " + last + search + "minimize z;", api.ErrName, post.InSolve, 0},
		{"var 1..3: x; " + last + search + "minimize 1;", api.ErrType, post.InSolve, 0},
		{"var 1..3: x; " + last + search + "minimize x;", api.ErrType, post.InSolve, 0},
	} {
		refused(t, read(t, c.s), c.e, c.part, c.at)
	}
	deep := read(t, "solve minimize z;")
	deep.Anns = []api.Expr{nested(api.MaxNest + 1)}
	refused(t, deep, api.ErrName, post.InSolve, 0)
	deep.Of = number(1)
	refused(t, deep, api.ErrType, post.InSolve, 0)
	deep.Goal = 3
	refused(t, deep, api.ErrType, post.InSolve, 0)
	deep.Goal = api.Satisfy
	refused(t, deep, api.ErrState, post.InSolve, 0)
}

// P18.1: MaxCons constraints, with those that the declarations say, and one more.
func TestMostConstraints(t *testing.T) {
	one := "constraint int_le(x, 2); "
	for _, c := range []struct {
		s string
		n int
		e api.Errno
	}{
		{"var 1..3: x; ", api.MaxCons, api.OK},
		{"var 1..3: x; var 1..3: y = x; ", api.MaxCons - 1, api.OK},
		{"var 1..3: x; var 1..3: y = x; ", api.MaxCons, api.ErrFull},
		{"var 1..3: x; var 1..3: y = x; var 1..3: z = 2; ", api.MaxCons - 2, api.OK},
		{"var 1..3: x; var 1..3: y = x; var 1..3: z = 2; ", api.MaxCons - 1, api.ErrFull},
	} {
		p := read(t, c.s+strings.Repeat(one, c.n)+"solve satisfy;")
		if c.e != api.OK {
			refused(t, p, c.e, post.InCon, 0)
			continue
		}
		if x, e, _, _ := post.Post(p); e != api.OK || len(x.Cons) != api.MaxCons || post.Right(x) != api.OK {
			t.Error(c.s, c.n, e, len(x.Cons))
		}
	}
}
