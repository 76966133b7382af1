package parse_test

import (
	"math/rand"
	"slices"
	"strings"
	"testing"

	"jigsaw/api"
	"jigsaw/dom"
	"jigsaw/lex"
	"jigsaw/parse"
)

// isName: can it be a name?
func isName(s string) bool { return lex.Word(s) && !slices.Contains(reserved(), s) }

func isNumber(n int64) bool { return -maxCoef <= n && n <= maxCoef }

// canBeList: can these stand in brackets that open within so many others?
func canBeList(l []api.Expr, depth int) bool {
	return depth < api.MaxNest && len(l) <= api.MaxArray && canBeAll(l, depth+1)
}

func canBeAll(l []api.Expr, depth int) bool {
	return !slices.ContainsFunc(l, func(e api.Expr) bool { return !canBe(e, depth) })
}

// canBe is what the chapter says of expressions, field by field: can it stand within so many brackets?
func canBe(e api.Expr, depth int) bool {
	n, m, named, list := e.N != 0, e.M != 0, e.Name != "", len(e.L) > 0
	switch e.Kind {
	case api.EBool:
		return (e.N == 0 || e.N == 1) && !m && !named && !list
	case api.EInt:
		return isNumber(e.N) && !m && !named && !list
	case api.ERange:
		return isNumber(e.N) && isNumber(e.M) && !named && !list
	case api.ESet:
		return !n && !m && !named && canBeList(e.L, depth) && !slices.ContainsFunc(e.L, func(x api.Expr) bool { return x.Kind != api.EInt })
	case api.EName:
		return isName(e.Name) && !n && !m && !list
	case api.EAt:
		return isName(e.Name) && isNumber(e.N) && !m && !list && depth < api.MaxNest
	case api.EArray:
		return !n && !m && !named && canBeList(e.L, depth)
	case api.ECall:
		return isName(e.Name) && !n && !m && canBeList(e.L, depth)
	case api.EString:
		return !strings.ContainsAny(e.Name, "\"\n") && !n && !m && !list
	}
	return false
}

func canBeType(t api.Type) bool {
	switch {
	case t.Kind < api.YBool || t.Kind > api.YSet:
		return false
	case t.Size < 0 || t.Size > api.MaxArray || !t.Array && t.Size != 0:
		return false
	case !t.Full:
		return len(t.Dom) == 0
	}
	return t.Kind != api.YBool && dom.Right(t.Dom) && (len(t.Dom) == 1 || dom.Size(t.Dom) <= api.MaxArray)
}

func canBeDecl(d api.Decl) bool {
	if !d.Has && !sameExpr(d.Value, api.Expr{}) || d.Has && !canBe(d.Value, 0) {
		return false
	}
	return canBeType(d.Type) && isName(d.Name) && canBeAll(d.Anns, 0)
}

// canBeProgram is what Right is to answer of a program whose text is not too long.
func canBeProgram(p api.Program) bool {
	for _, d := range p.Decls {
		if !canBeDecl(d) {
			return false
		}
	}
	for _, x := range p.Cons {
		if !isName(x.Name) || !canBeList(x.Args, 0) || !canBeAll(x.Anns, 0) {
			return false
		}
	}
	switch p.Goal {
	case api.Satisfy:
		return canBeAll(p.Anns, 0) && sameExpr(p.Of, api.Expr{})
	case api.Minimize, api.Maximize:
		return canBeAll(p.Anns, 0) && canBe(p.Of, 0)
	}
	return false
}

// isRight asks whether Right and Print take a program.
func isRight(t *testing.T, p api.Program, want bool) {
	t.Helper()
	e := parse.Right(p)
	s, f := parse.Print(p)
	if (e == api.OK) != want || e != f || e != api.OK && (e != api.ErrParse || s != "") {
		t.Errorf("Right of %s: %d, Print %q, %d", short(parse.Expr(array(p.Of))), e, short(s), f)
	}
}

// P16.2, P1: of programs of any kind, held against what the chapter says field by field.
func TestRightOfAny(t *testing.T) {
	random := rand.New(rand.NewSource(2))
	found := map[bool]int{}
	for _, odd := range []int{1, 2, 5, 30} {
		for range 5000 {
			p := maker{random, odd}.program()
			want := canBeProgram(p)
			found[want]++
			if e := parse.Right(p); (e == api.OK) != want || e != api.OK && e != api.ErrParse {
				t.Fatalf("Right of %+v: %d", p, e)
			}
		}
	}
	if found[true] < 3000 || found[false] < 3000 {
		t.Error("too few of a kind", found)
	}
}

// P16.2: each expression in which one field is another one, wherever it stands.
func TestRightOfFields(t *testing.T) {
	for _, e := range exprs() {
		for _, change := range []func(e *api.Expr){
			func(e *api.Expr) {}, func(e *api.Expr) { e.N = 1 }, func(e *api.Expr) { e.N = -1 }, func(e *api.Expr) { e.N = 2 }, func(e *api.Expr) { e.N = maxCoef + 1 }, func(e *api.Expr) { e.M = 1 }, func(e *api.Expr) { e.M = -maxCoef - 1 },
			func(e *api.Expr) { e.Name = "" }, func(e *api.Expr) { e.Name = "z" }, func(e *api.Expr) { e.Name = "var" }, func(e *api.Expr) { e.Name = "a\"b" }, func(e *api.Expr) { e.Name = "a\nb" }, func(e *api.Expr) { e.Name = "a b" },
			func(e *api.Expr) { e.L = nil }, func(e *api.Expr) { e.L = []api.Expr{} }, func(e *api.Expr) { e.L = some(1) }, func(e *api.Expr) { e.L = []api.Expr{{}} }, func(e *api.Expr) { e.L = []api.Expr{name("x")} }, func(e *api.Expr) { e.L = some(1000) }, func(e *api.Expr) { e.L = some(1001) },
			func(e *api.Expr) { e.Kind = 0 }, func(e *api.Expr) { e.Kind = 10 }, func(e *api.Expr) { e.Kind = e.Kind%9 + 1 },
		} {
			x := e
			change(&x)
			want := canBe(x, 0)
			isRight(t, api.Program{Goal: api.Minimize, Of: x}, want)
			isRight(t, api.Program{Goal: api.Maximize, Of: array(name("y"), x)}, want)
			isRight(t, api.Program{Anns: []api.Expr{name("y"), x}}, want)
			isRight(t, api.Program{Cons: []api.Item{{Name: "c", Args: []api.Expr{x, x}}}}, want)
			isRight(t, api.Program{Cons: []api.Item{{Name: "c", Anns: []api.Expr{x}}}}, want)
			isRight(t, api.Program{Decls: []api.Decl{{Type: api.Type{Kind: api.YInt}, Name: "y", Has: true, Value: x}}}, want)
			isRight(t, api.Program{Decls: []api.Decl{{Type: api.Type{Kind: api.YInt}, Name: "y", Anns: []api.Expr{x}}}}, want)
			nothing := sameExpr(x, api.Expr{})
			isRight(t, api.Program{Decls: []api.Decl{{Type: api.Type{Kind: api.YInt}, Name: "y", Value: x}}}, nothing)
			isRight(t, api.Program{Of: x}, nothing)
		}
	}
}

// P16.2: goals that there are not, and names that are none.
func TestRightOfGoalsAndNames(t *testing.T) {
	for _, goal := range []int{-1, 3, greatest, least} {
		isRight(t, api.Program{Goal: goal}, false)
		isRight(t, api.Program{Goal: goal, Of: name("x")}, false)
	}
	isRight(t, api.Program{}, true)
	isRight(t, api.Program{Goal: api.Minimize}, false)
	isRight(t, api.Program{Goal: api.Minimize, Of: name("x")}, true)
	for _, s := range append(reserved(), "", " ", "1", "x y", "x ", " x", "x;", "x[1]", "x()", "\"x\"", "é", "\xff", "x%", "% \n x", "x :: a", "x = 1", "x;\nint: y", "c(); constraint d", "::") {
		isRight(t, api.Program{Decls: []api.Decl{{Type: api.Type{Kind: api.YInt}, Name: s}}}, false)
		isRight(t, api.Program{Cons: []api.Item{{Name: s}}}, false)
		isRight(t, api.Program{Goal: api.Maximize, Of: name(s)}, false)
		isRight(t, api.Program{Goal: api.Maximize, Of: at(s, 1)}, false)
		isRight(t, api.Program{Goal: api.Maximize, Of: call(s)}, false)
	}
}

// P16.2: doms whose ranges are right, and others; sizes.
func TestRightOfTypes(t *testing.T) {
	right := [][]api.Range{nil, {}, ranges(r(1, 1)), ranges(r(-maxBig, maxBig)), ranges(r(1, 2), r(4, 9)), comb(1000), ranges(r(1, 999), r(1001, 1001)), ranges(r(-maxBig, -maxBig), r(maxBig, maxBig))}
	for _, l := range append(right, wrongRanges()...) {
		for _, kind := range []int{0, api.YBool, api.YInt, api.YSet, 4} {
			for _, full := range []bool{false, true} {
				x := api.Type{Kind: kind, Full: full, Dom: l}
				isRight(t, api.Program{Decls: []api.Decl{{Type: x, Name: "x"}}}, canBeType(x))
				x.Var, x.Array, x.Size = true, true, 5
				isRight(t, api.Program{Decls: []api.Decl{{Type: x, Name: "x"}}}, canBeType(x))
			}
		}
	}
	for _, size := range []int64{0, 1, 1000, 1001, -1, least, greatest} {
		for _, array := range []bool{false, true} {
			x := api.Type{Kind: api.YInt, Array: array, Size: size}
			isRight(t, api.Program{Decls: []api.Decl{{Type: x, Name: "x"}}}, size == 0 || array && size > 0 && size <= 1000)
		}
	}
}

// P16.2: as many as may be, and one more; as deep as may be, and deeper.
func TestRightAtLimits(t *testing.T) {
	decl, item := api.Decl{Type: api.Type{Kind: api.YInt}, Name: "x"}, api.Item{Name: "c"}
	isRight(t, api.Program{Decls: slices.Repeat([]api.Decl{decl}, 1000), Cons: slices.Repeat([]api.Item{item}, 1000)}, true)
	isRight(t, api.Program{Decls: slices.Repeat([]api.Decl{decl}, 1001)}, false)
	isRight(t, api.Program{Cons: slices.Repeat([]api.Item{item}, 1001)}, false)
	for n := 1; n < 20; n++ {
		isRight(t, api.Program{Goal: api.Minimize, Of: deep(n)}, n <= 16)
		isRight(t, api.Program{Cons: []api.Item{{Name: "c", Args: []api.Expr{deep(n)}}}}, n <= 15)
		isRight(t, api.Program{Cons: []api.Item{{Name: "c", Anns: []api.Expr{deep(n)}}}}, n <= 16)
		isRight(t, api.Program{Anns: []api.Expr{call("f", deep(n))}}, n <= 15)
	}
	isRight(t, api.Program{Cons: []api.Item{{Name: "c", Args: some(1000)}}}, true)
	isRight(t, api.Program{Cons: []api.Item{{Name: "c", Args: some(1001)}}}, false)
	isRight(t, api.Program{Anns: some(5000)}, true)
}

// P1: lists that hold the same list again and again are a text without an end, nearly; a list that holds itself is one.
func TestRightOfEndless(t *testing.T) {
	wide := []api.Expr{number(1)}
	for range 40 {
		wide = slices.Repeat([]api.Expr{array(wide...)}, 1000)
	}
	round := make([]api.Expr, 1)
	round[0] = api.Expr{Kind: api.EArray, L: round}
	hidden := api.Expr{Kind: api.EInt, N: 1, L: round}
	for _, e := range []api.Expr{array(wide...), {Kind: api.EInt, L: wide}, {Kind: 99, L: wide}, array(round...), hidden, {L: round}} {
		isAll := func(p api.Program) {
			if f := parse.Right(p); f != api.ErrParse {
				t.Error("Right", f)
			}
			if s, f := parse.Print(p); s != "" || f != api.ErrParse {
				t.Error("Print", len(s), f)
			}
		}
		isAll(api.Program{Goal: api.Minimize, Of: e})
		isAll(api.Program{Of: e})
		isAll(api.Program{Anns: []api.Expr{e}})
		isAll(api.Program{Cons: []api.Item{{Name: "c", Args: []api.Expr{e}}}})
		isAll(api.Program{Decls: []api.Decl{{Name: "c", Type: api.Type{Kind: api.YInt}, Value: e}}})
	}
}
