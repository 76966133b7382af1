package check_test

import (
	"slices"
	"testing"

	"jigsaw/api"
	"jigsaw/check"
	"jigsaw/dom"
)

// ahead is declarations of each kind of thing, by which those of the model are asked.
const ahead = "int: n = 3; int: big = 1000001; bool: t = true; set of int: s = {2, 4}; var 1..3: x; var bool: b; var set of 1..3: v; " +
	"array [1..3] of int: ns = [1, 5, 1000001]; array [1..2] of var int: xs = [x, 2]; array [1..2] of var set of int: vs = [v, {1, 9}]; "

// thing is an expression, and what the document says that it is where the names of ahead are known.
type thing struct {
	x      api.Expr
	kind   int // 0: it is none
	isVar  bool
	values []int64 // a constant's: the number, or a set's elements
	noName bool
}

func numbers(x api.Expr, kind int, l ...int64) thing { return thing{x: x, kind: kind, values: l} }
func variable(x api.Expr, kind int) thing            { return thing{x: x, kind: kind, isVar: true} }

// things is expressions of each form, at the edges that the document names.
func things() []thing {
	return []thing{
		numbers(truth(0), api.YBool, 0), numbers(truth(1), api.YBool, 1), {x: truth(2)}, {x: truth(-1)},
		numbers(number(0), api.YInt, 0), numbers(number(2), api.YInt, 2), numbers(number(6), api.YInt, 6),
		numbers(number(maxBig), api.YInt, maxBig), numbers(number(-maxBig), api.YInt, -maxBig),
		numbers(number(maxBig+1), api.YInt, maxBig+1), numbers(number(-maxBig-1), api.YInt, -maxBig-1),
		numbers(number(maxCoef), api.YInt, maxCoef), numbers(number(-maxCoef), api.YInt, -maxCoef),
		{x: number(maxCoef + 1)}, {x: number(-maxCoef - 1)},
		numbers(span(1, 3), api.YSet, 1, 2, 3), numbers(span(3, 1), api.YSet), {x: span(maxBig, maxBig+1)}, {x: span(0, 64)},
		numbers(set(), api.YSet), numbers(set(4, 2, 4), api.YSet, 2, 4), {x: set(maxBig + 1)}, {x: set(every(65)...)},
		numbers(name("n"), api.YInt, 3), numbers(name("big"), api.YInt, 1000001), numbers(name("t"), api.YBool, 1), numbers(name("s"), api.YSet, 2, 4),
		variable(name("x"), api.YInt), variable(name("b"), api.YBool), variable(name("v"), api.YSet),
		{x: name("ns")}, {x: name("xs")}, {x: name("none"), noName: true}, {x: name(""), noName: true},
		numbers(at("ns", 1), api.YInt, 1), numbers(at("ns", 3), api.YInt, 1000001), variable(at("xs", 1), api.YInt), numbers(at("xs", 2), api.YInt, 2),
		variable(at("vs", 1), api.YSet), numbers(at("vs", 2), api.YSet, 1, 9),
		{x: at("ns", 0)}, {x: at("ns", 4)}, {x: at("ns", -1)}, {x: at("n", 1)}, {x: at("none", 1), noName: true}, {x: at("none", 0), noName: true},
		{x: array()}, {x: array(number(1))}, {x: call("n")}, {x: call("none", name("none"))}, {x: text("n")}, {}, {x: api.Expr{Kind: 10, N: 1, Name: "n"}}, {x: api.Expr{Kind: -1}},
	}
}

// fault is what is wrong with a thing where one of a type is wanted; OK, if nothing is.
func (c thing) fault(kind int, vars bool, d []api.Range, full bool) api.Errno {
	most := maxCoef
	if vars {
		most = maxBig
	}
	outside := func(n int64) bool { return full && !dom.Has(d, n) }
	switch {
	case c.noName:
		return api.ErrName
	case c.kind == 0 || c.kind != kind:
		return api.ErrType
	case c.isVar && !vars:
		return api.ErrType
	case !c.isVar && kind == api.YInt && (c.values[0] < -most || c.values[0] > most):
		return api.ErrType
	case !c.isVar && kind != api.YBool && slices.ContainsFunc(c.values, outside):
		return api.ErrType
	}
	return api.OK
}

// model is the document's P17.1 of one declaration behind those of ahead, sentence by sentence.
func model(d api.Decl, l []thing) api.Errno {
	t := d.Type
	one := t.Var && !t.Array
	taken := []string{"n", "big", "t", "s", "x", "b", "v", "ns", "xs", "vs"}
	isArray := d.Value.Kind == api.EArray
	for _, c := range []struct {
		broken bool
		e      api.Errno
	}{
		{slices.Contains(taken, d.Name), api.ErrTwice},
		{t.Kind < 1 || t.Kind > 3, api.ErrType},
		{t.Array && t.Var && t.Full, api.ErrMore},
		{one && t.Kind == api.YSet && !t.Full, api.ErrMore},
		{one && t.Kind == api.YSet && dom.Size(t.Dom) > 64, api.ErrMore},
		{t.Full && !dom.Right(t.Dom), api.ErrType},
		{!d.Has && !one, api.ErrType},
		{d.Has && t.Array && (!isArray || int64(len(d.Value.L)) != t.Size), api.ErrType},
		{d.Has && !t.Array && isArray, api.ErrType},
	} {
		if c.broken {
			return c.e
		}
	}
	if !d.Has {
		return api.OK
	}
	for _, c := range l {
		if e := c.fault(t.Kind, t.Var, t.Dom, t.Full); e != api.OK {
			return e
		}
	}
	return api.OK
}

// types is types of each kind, Var and not, an array and not, with right and wrong doms and without.
func types() []api.Type {
	var out []api.Type
	doms := [][]api.Range{nil, ranges(r(1, 4)), ranges(r(1, 1), r(3, 5)), ranges(r(1, 64)), ranges(r(1, 65)), ranges(r(3, 1)), ranges(r(1, 2), r(3, 4)), ranges(r(0, maxBig+1)), make([]api.Range, api.MaxRanges+1)}
	for _, kind := range []int{api.YBool, api.YInt, api.YSet, 0, 4, -1} {
		for _, d := range doms {
			for bits := range 8 {
				out = append(out, api.Type{Kind: kind, Dom: d, Full: bits&1 != 0, Var: bits&2 != 0, Array: bits&4 != 0})
			}
		}
	}
	return out
}

// declared asks New of one declaration behind others, and holds it against the model.
func declared(t *testing.T, first []api.Decl, d api.Decl, l ...thing) {
	t.Helper()
	want := model(d, l)
	v, e, at := check.New(append(slices.Clip(first), d))
	if e != want || e != api.OK && (at != len(first) || v != nil) || e == api.OK && (at != 0 || v == nil) {
		t.Fatalf("%+v: %d, %d; want %d", d, e, at, want)
	}
	if e == api.OK && v.Kind(d.Name) != d.Type.Kind {
		t.Fatalf("%+v: of kind %d", d, v.Kind(d.Name))
	}
}

// P17.1: declarations of all types with all values of one thing, against the model.
func TestModelOfOne(t *testing.T) {
	first := read(t, ahead).Decls
	for _, kind := range types() {
		for _, s := range []string{"new", "n", "xs"} {
			declared(t, first, api.Decl{Name: s, Type: kind})
			for _, c := range things() {
				if !kind.Array {
					declared(t, first, api.Decl{Name: s, Type: kind, Has: true, Value: c.x}, c)
				} else {
					declared(t, first, api.Decl{Name: s, Type: kind, Has: true, Value: c.x})
				}
			}
		}
	}
}

// P17.1: declarations of all types with arrays as values, of their size and not, against the model: of several faults the first one's.
func TestModelOfArrays(t *testing.T) {
	first := read(t, ahead).Decls
	all := things()
	for _, kind := range types() {
		for size := int64(-1); size < 4; size++ {
			kind.Size = size
			declared(t, first, api.Decl{Name: "new", Type: kind, Has: true, Value: array()})
			for _, c := range all {
				declared(t, first, api.Decl{Name: "new", Type: kind, Has: true, Value: array(c.x)}, c)
			}
		}
		if !kind.Array || kind.Kind < api.YBool {
			continue
		}
		kind.Size = 2
		for _, a := range all {
			for i := 0; i < len(all); i += 5 {
				b := all[i]
				declared(t, first, api.Decl{Name: "new", Type: kind, Has: true, Value: array(a.x, b.x)}, a, b)
			}
		}
	}
}
