package parse_test

import (
	"math/rand"
	"reflect"
	"testing"

	"jigsaw/api"
	"jigsaw/parse"
)

// first is a program in which each field that can be has something.
func first() api.Program {
	return api.Program{
		Decls: []api.Decl{{Type: api.Type{Var: true, Array: true, Size: 2, Kind: api.YSet, Full: true, Dom: ranges(r(1, 2), r(5, 5))}, Name: "x", Anns: []api.Expr{name("a"), call("b", number(1))}, Has: true, Value: array(set(1), set(2, 3))}},
		Cons:  []api.Item{{Name: "c", Args: []api.Expr{number(1), array(span(1, 2))}, Anns: []api.Expr{text("a")}}, {Name: "d"}},
		Anns:  []api.Expr{call("s", array(name("x")))},
		Goal:  api.Minimize,
		Of:    at("x", 1),
	}
}

// changes is one change each of the first program.
func changes() []func(p *api.Program) {
	return []func(p *api.Program){
		func(p *api.Program) {},
		func(p *api.Program) { p.Goal = api.Maximize },
		func(p *api.Program) { p.Of.Kind = 0 },
		func(p *api.Program) { p.Of.N = 2 },
		func(p *api.Program) { p.Of.M = 2 },
		func(p *api.Program) { p.Of.Name = "y" },
		func(p *api.Program) { p.Of.L = some(1) },
		func(p *api.Program) { p.Anns = nil },
		func(p *api.Program) { p.Anns = append(p.Anns, name("a")) },
		func(p *api.Program) { p.Anns[0].L[0].L[0].Name = "y" },
		func(p *api.Program) { p.Decls = nil },
		func(p *api.Program) { p.Decls = append(p.Decls, api.Decl{}) },
		func(p *api.Program) { p.Decls[0].Name = "y" },
		func(p *api.Program) { p.Decls[0].Has = false },
		func(p *api.Program) { p.Decls[0].Value.L[1].L[0].N = 7 },
		func(p *api.Program) { p.Decls[0].Value.L = p.Decls[0].Value.L[:1] },
		func(p *api.Program) { p.Decls[0].Anns = p.Decls[0].Anns[:1] },
		func(p *api.Program) { p.Decls[0].Anns[1].L[0].Kind = api.EBool },
		func(p *api.Program) { p.Decls[0].Type.Var = false },
		func(p *api.Program) { p.Decls[0].Type.Array = false },
		func(p *api.Program) { p.Decls[0].Type.Size = 3 },
		func(p *api.Program) { p.Decls[0].Type.Kind = api.YInt },
		func(p *api.Program) { p.Decls[0].Type.Full = false },
		func(p *api.Program) { p.Decls[0].Type.Dom = nil },
		func(p *api.Program) { p.Decls[0].Type.Dom[0].Lo = 0 },
		func(p *api.Program) { p.Decls[0].Type.Dom[1].Hi = 6 },
		func(p *api.Program) { p.Decls[0].Type.Dom = append(p.Decls[0].Type.Dom, r(9, 9)) },
		func(p *api.Program) { p.Cons = p.Cons[:1] },
		func(p *api.Program) { p.Cons[0], p.Cons[1] = p.Cons[1], p.Cons[0] },
		func(p *api.Program) { p.Cons[0].Name = "e" },
		func(p *api.Program) { p.Cons[0].Args[1].L[0].M = 3 },
		func(p *api.Program) { p.Cons[0].Args = p.Cons[0].Args[:1] },
		func(p *api.Program) { p.Cons[0].Anns[0].Name = "" },
		func(p *api.Program) { p.Cons[1].Anns = some(1) },
		func(p *api.Program) { p.Cons[1].Args = some(1) },
	}
}

// P16.3: Same goes field by field: programs of which each is changed in another place are not the same.
func TestSame(t *testing.T) {
	for i, one := range changes() {
		for j, other := range changes() {
			a, b := first(), first()
			one(&a)
			other(&b)
			if parse.Same(a, b) != (i == j) || parse.Same(a, parse.Copy(b)) != (i == j) || parse.Same(parse.Copy(a), b) != (i == j) {
				t.Error("Same of the changes", i, j)
			}
		}
	}
}

// P16.3: lists of nothing are the same, wherever they stand.
func TestSameOfNothing(t *testing.T) {
	none := []api.Expr{}
	a := api.Program{
		Decls: []api.Decl{{Type: api.Type{Dom: ranges()}, Anns: none, Value: api.Expr{L: none}}},
		Cons:  []api.Item{{Args: none, Anns: none}},
		Anns:  none,
		Of:    api.Expr{L: none},
	}
	b := api.Program{Decls: []api.Decl{{}}, Cons: []api.Item{{}}}
	if !parse.Same(a, b) || !parse.Same(b, a) || !parse.Same(api.Program{Decls: []api.Decl{}, Cons: []api.Item{}}, api.Program{}) {
		t.Error("Same")
	}
	if parse.Same(a, api.Program{}) {
		t.Error("a declaration is not nothing")
	}
}

// P16.3: a copy is as it is, and goes its own way, in both directions; so does each answer of Parse.
func TestCopy(t *testing.T) {
	random := rand.New(rand.NewSource(9))
	programs := []api.Program{{}, first(), read(t, everything)}
	for range 500 {
		programs = append(programs, maker{random, 3}.program())
	}
	for _, p := range programs {
		kept, other := parse.Copy(p), parse.Copy(p)
		if !reflect.DeepEqual(p, kept) || !parse.Same(p, kept) {
			t.Fatal("Copy", p, kept)
		}
		spoil(other)
		if !reflect.DeepEqual(p, kept) {
			t.Fatal("writing into a copy changed", kept)
		}
		other = parse.Copy(p)
		spoil(p)
		if !reflect.DeepEqual(other, kept) {
			t.Fatal("a copy was changed", kept)
		}
	}
	spoil(read(t, everything))
	if s, e := parse.Print(read(t, everything)); e != api.OK || len(s) == 0 {
		t.Error("Parse answered a list twice", s, e)
	}
}

// Rule 4: no two lists of what Parse answers share memory: what is written into one, or appended to it, is not seen in another.
func TestParsedListsAreApart(t *testing.T) {
	want := read(t, everything)
	for i := range want.Decls {
		p := read(t, everything)
		spoil(api.Program{Decls: p.Decls[i : i+1 : i+1]})
		p.Decls[i] = parse.Copy(want).Decls[i]
		if !reflect.DeepEqual(p, want) {
			t.Error("declaration", i)
		}
	}
	for i := range want.Cons {
		p := read(t, everything)
		spoil(api.Program{Cons: p.Cons[i : i+1 : i+1]})
		p.Cons[i] = parse.Copy(want).Cons[i]
		if !reflect.DeepEqual(p, want) {
			t.Error("constraint", i)
		}
	}
	p := read(t, everything)
	spoil(api.Program{Anns: p.Anns, Of: p.Of})
	p.Anns, p.Of = parse.Copy(want).Anns, parse.Copy(want).Of
	if !reflect.DeepEqual(p, want) {
		t.Error("solve")
	}
}
