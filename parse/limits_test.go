package parse_test

import (
	"strings"
	"testing"

	"jigsaw/api"
	"jigsaw/parse"
)

// P16.1: an array of size 0, of MaxArray, and beyond both.
func TestSizes(t *testing.T) {
	for _, of := range []string{"int: a;", "var bool: a = [];", "set of 1..2: a;"} {
		read(t, "array [1..0] of "+of+tail)
		read(t, "array [1..1000] of "+of+tail)
		for _, size := range []string{"1001", "-1", "1000000000", "-1000000000", "0001001"} {
			refused(t, "array [1..@"+size+"] of "+of+tail, api.ErrSize)
			refused(t, "array [1..@"+size, api.ErrSize)
		}
	}
}

// P16.1: numbers of a dom at Big and one beyond; those of expressions may be beyond.
func TestNumbersOfDoms(t *testing.T) {
	for _, dom := range []string{"%..5", "5..%", "{%}", "{1, %}", "{%, 1}", "set of %..5", "set of 5..%", "set of {%}", "set of {1, 2, %, 3}"} {
		for _, ahead := range []string{"", "var ", "array [1..2] of ", "array [1..2] of var ", "int: y; "} {
			put := func(n string) string { return ahead + strings.Replace(dom, "%", n, 1) + ": x;" + tail }
			read(t, put("1000000"))
			read(t, put("-1000000"))
			for _, n := range []string{"1000001", "-1000001", "1000000000", "-1000000000"} {
				refused(t, put("@"+n), api.ErrArg)
			}
		}
	}
	refused(t, "@1000001..-1000001: x;"+tail, api.ErrArg)
	refused(t, "@-1000001..5000000: x;"+tail, api.ErrArg)
	refused(t, "{@1000001, 1000002}: x;"+tail, api.ErrArg)
	read(t, "int: x :: 1000001 :: 1000001..1000002 :: {1000001} :: a[1000001] = -1000000000; constraint c(1000000000);"+tail)
}

// P16.1, P16.6: MaxVars declarations, and one more, at its first token, whatever stands behind that.
func TestManyDeclarations(t *testing.T) {
	full := strings.Repeat("int:x;", api.MaxVars)
	if p := read(t, full+tail); len(p.Decls) != api.MaxVars {
		t.Error("declarations", len(p.Decls))
	}
	if p := read(t, full+"constraint c();"+tail); len(p.Decls) != api.MaxVars || len(p.Cons) != 1 {
		t.Error("declarations", len(p.Decls), len(p.Cons))
	}
	for _, s := range []string{"int:x;", "bool:x;", "var int:x;", "var float: x;", "var", "set of int: x;", "set", "array [1..2000] of int: x;", "array", "1..2: x;", "1000000", "{}: x;", "{1000001}: x;", "{"} {
		refused(t, full+"@"+s+tail, api.ErrFull)
		refused(t, full+" % one more\n@"+s, api.ErrFull)
	}
	refused(t, full+"@float: x;"+tail, api.ErrMore)
	refused(t, full+"@predicate p();"+tail, api.ErrMore)
	refused(t, full+"@1000001..2: x;"+tail, api.ErrArg)
	refused(t, full+"@-1000001", api.ErrArg)
	refused(t, full+"@x: int;"+tail, api.ErrParse)
	refused(t, full+"@", api.ErrParse)
	refused(t, full+"@of", api.ErrParse)
}

// P16.1, P16.6: MaxCons constraints, and one more, at its first token.
func TestManyConstraints(t *testing.T) {
	full := strings.Repeat("int:x;", api.MaxVars) + strings.Repeat("constraint c();", api.MaxCons)
	if p := read(t, full+tail); len(p.Decls) != api.MaxVars || len(p.Cons) != api.MaxCons {
		t.Error("constraints", len(p.Decls), len(p.Cons))
	}
	for _, s := range []string{"constraint c();", "constraint", "constraint float", "constraint c([[[[[[[[[[[[[[[[[["} {
		refused(t, full+"@"+s+tail, api.ErrFull)
	}
	refused(t, full+"@int:x;"+tail, api.ErrParse)
	refused(t, full+"@predicate p();"+tail, api.ErrMore)
	refused(t, full+"@float", api.ErrParse)
	refused(t, full+"@", api.ErrParse)
}

// P16.1: each form of a list with MaxArray elements, and with one more, at that one.
func TestLongLists(t *testing.T) {
	full := strings.Repeat("1,", api.MaxArray-1) + "1"
	for _, form := range []string{
		"{%}: x;", "var {%}: x;", "set of {%}: x;", "array [1..2] of var {%}: x;",
		"int: x = {%};", "int: x = [%];", "int: x = f(%);", "int: x :: {%};", "int: x :: [%];", "int: x :: f(%);", "int: x = [[%], [%]];",
		"constraint c(%);", "constraint c({%});", "constraint c([%]);", "constraint c(f(%));", "constraint c() :: f(%);", "solve :: f(%) satisfy;", "solve minimize [%];",
	} {
		if !strings.HasPrefix(form, "solve") {
			form += tail
		}
		put := func(more string) string { return strings.Replace(form, "%", full+more, 1) }
		one := strings.Replace(put(""), "%", "", 1)
		read(t, one)
		for _, s := range []string{",@1", ",@0,1", ",@1000000", ", @1"} {
			refused(t, strings.Replace(put(s), "%", "", 1), api.ErrFull)
		}
		for _, s := range []string{",@", ",@,", ",@)x", ",@;", ",@..", ",@var", ",@float", ",@predicate", "@;", " @1"} {
			refused(t, put(s), api.ErrParse)
		}
	}
	dom := "{" + full
	refused(t, dom+",@1000001}: x;", api.ErrArg)
	refused(t, dom+",@x}: y;", api.ErrParse)
	refused(t, "int: x = {"+full+",@1000001};", api.ErrFull)
	refused(t, "int: x = {"+full+",@x};", api.ErrParse)
	for _, s := range []string{"x", "x[1]", "f()", "[]", "{}", "true", "false", `"a"`, "1..2", "[var", "x[y", "1.."} {
		refused(t, "int: x = ["+full+",@"+s+"];", api.ErrFull)
		refused(t, "constraint c("+full+",@"+s+");", api.ErrFull)
	}
}

// P16.1: annotations are no list: there may be more of them, as many as there is room for.
func TestManyAnnotations(t *testing.T) {
	many := strings.Repeat("::a", api.MaxArray+1)
	p := read(t, "int: x"+many+"; constraint c()"+many+"; solve"+many+" satisfy;")
	for _, l := range [][]api.Expr{p.Decls[0].Anns, p.Cons[0].Anns, p.Anns} {
		if len(l) != api.MaxArray+1 {
			t.Error("annotations", len(l))
		}
	}
	if e := parse.Right(p); e != api.OK {
		t.Error("Right", e)
	}
}

// nest is a text of n brackets that open within one another, and last within them, with the mark ahead of its bracket.
func nest(openings []string, n int, mark, last string) string {
	var open, closing string
	for i := range n {
		x := openings[i%len(openings)]
		open += x
		if strings.Contains(x, "(") {
			closing = ")" + closing
		} else {
			closing = "]" + closing
		}
	}
	at := strings.IndexAny(last, "([{")
	return open + last[:at] + mark + last[at:] + closing
}

// P16.1: MaxNest brackets within one another, and one more; a constraint's own one counts.
func TestNesting(t *testing.T) {
	for _, openings := range [][]string{{"["}, {"f("}, {"[", "f("}, {"f(1, ", "[true, "}} {
		for _, last := range []string{"[]", "{}", "f()", "x[1]", "[1]", "{1, 2}", "f(x)"} {
			for _, place := range []string{"int: x = %;", "int: x :: %;", "int: x :: [] = %;", "constraint c() :: %;", "constraint c([[[]]]) :: %;"} {
				read(t, strings.Replace(place, "%", nest(openings, api.MaxNest-1, "", last), 1)+tail)
				refused(t, strings.Replace(place, "%", nest(openings, api.MaxNest, "@", last), 1)+tail, api.ErrState)
			}
			for _, place := range []string{"constraint c(%);", "constraint c(1, %);", "constraint c([[[]]], %, 1);"} {
				read(t, strings.Replace(place, "%", nest(openings, api.MaxNest-2, "", last), 1)+tail)
				refused(t, strings.Replace(place, "%", nest(openings, api.MaxNest-1, "@", last), 1)+tail, api.ErrState)
			}
			read(t, "solve :: "+nest(openings, api.MaxNest-1, "", last)+" satisfy;")
			refused(t, "solve :: "+nest(openings, api.MaxNest, "@", last)+" satisfy;", api.ErrState)
			read(t, "solve minimize "+nest(openings, api.MaxNest-1, "", last)+";")
			refused(t, "solve minimize "+nest(openings, api.MaxNest, "@", last)+";", api.ErrState)
		}
	}
}

// P16.1: what is closed again plays no part; and what goes ahead of ErrState at the same token, and behind it.
func TestNestingAndOtherFaults(t *testing.T) {
	open, closing := strings.Repeat("[", api.MaxNest), strings.Repeat("]", api.MaxNest)
	read(t, "int: x = "+open+closing+"; int: y :: "+open+closing+" = "+open+closing+";"+tail)
	inner := strings.Repeat("[", api.MaxNest-1)
	read(t, "int: x = "+inner+"[], [1], x[2], f(3), {4}, []"+closing[1:]+";"+tail)
	refused(t, "int: x = "+open+"@[;", api.ErrState)
	refused(t, "int: x = "+open+"@{x};", api.ErrState)
	refused(t, "int: x = "+open+"x@[y];", api.ErrState)
	refused(t, "int: x = "+open+"x@(];", api.ErrState)
	refused(t, "int: x = "+open+"@(", api.ErrParse)
	refused(t, "int: x = "+open+"true@[1]", api.ErrParse)
	refused(t, "int: x = "+open+"1@(", api.ErrParse)
	full := strings.Repeat("1,", api.MaxArray)
	refused(t, "int: x = "+open+full+"@[];", api.ErrFull)
	refused(t, "int: x = "+open+full+"@{};", api.ErrFull)
	refused(t, "int: x = "+open+full+"@x[1];", api.ErrFull)
	refused(t, "int: x = "+open+strings.Repeat("1,", api.MaxArray-1)+"@[];", api.ErrState)
}
