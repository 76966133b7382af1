package search_test

import (
	"fmt"
	"math"
	"slices"
	"testing"

	"jigsaw/api"
	"jigsaw/branch"
	"jigsaw/dom"
	"jigsaw/kinds"
	"jigsaw/search"
)

func dec(v, op int, n int64) branch.Dec { return branch.Dec{Var: v, Op: op, N: n} }

// sameDoms holds domains against each other, field by field.
func sameDoms(a, b []api.Dom) bool {
	return slices.EqualFunc(a, b, func(a, b api.Dom) bool {
		return a.Set == b.Set && slices.Equal(a.R, b.R) && slices.Equal(a.Lo, b.Lo) && slices.Equal(a.Up, b.Up) && a.Least == b.Least && a.Most == b.Most
	})
}

func copyDoms(d []api.Dom) []api.Dom {
	var out []api.Dom
	for _, x := range d {
		out = append(out, kinds.Copy(x))
	}
	return out
}

// made is nogoods of these lists.
func made(t *testing.T, l ...[]branch.Dec) *search.Nogoods {
	t.Helper()
	n := search.New()
	for i, x := range l {
		if e := n.Add(x...); e != api.OK || n.Len() != i+1 {
			t.Fatal("Add", x, e, n.Len())
		}
	}
	return n
}

// P20.4: what is refused, in order, and changes nothing.
func TestAdd(t *testing.T) {
	n := search.New()
	if n == nil || n.Len() != 0 {
		t.Fatal("New")
	}
	long := make([]branch.Dec, api.MaxArray+1)
	wrong := []branch.Dec{dec(0, branch.Out, 1), dec(0, 6, 1)}
	for i := range api.MaxCons {
		for _, op := range []int{-1, 6, math.MinInt, math.MaxInt} {
			if e := n.Add(dec(0, branch.Eq, 1), dec(0, op, 1)); e != api.ErrArg || n.Len() != i {
				t.Fatal("Add of what is none", e, n.Len())
			}
		}
		if e := n.Add(long...); e != api.ErrSize || n.Len() != i {
			t.Fatal("Add of too many", e, n.Len())
		}
		if e := n.Add(long[:i%(api.MaxArray+1)]...); e != api.OK || n.Len() != i+1 {
			t.Fatal("Add", e, n.Len())
		}
	}
	for _, c := range []struct {
		l []branch.Dec
		e api.Errno
	}{{long, api.ErrSize}, {long[1:], api.ErrFull}, {wrong, api.ErrFull}, {nil, api.ErrFull}} {
		if e := n.Add(c.l...); e != c.e || n.Len() != api.MaxCons {
			t.Error("Add to a full one", e, c.e, n.Len())
		}
	}
	long[1000].Op = 6
	if e := search.New().Add(long...); e != api.ErrSize {
		t.Error("Add of too many and wrong ones", e)
	}
	if e := search.New().Add(long[:1000]...); e != api.OK {
		t.Error("Add of just as many", e)
	}
}

// P20.4: of nil; the zero one is as New's.
func TestNilNogoods(t *testing.T) {
	var n *search.Nogoods
	if n.Add() != api.ErrNil || n.Add(dec(0, 9, 0)) != api.ErrNil || n.Add(make([]branch.Dec, api.MaxArray+1)...) != api.ErrNil || n.Len() != 0 || !n.Holds(nil) || !n.Holds([]api.Val{{N: 1}}) {
		t.Error("nil")
	}
	for _, d := range [][]api.Dom{nil, {num(r(1, 2)), set(nil, list(1), 1, 1)}, {num()}, {num(r(2, 1))}} {
		kept := copyDoms(d)
		got, what, e := n.Prune(d)
		if !sameDoms(got, kept) || what != api.Same || e != api.OK {
			t.Error("Prune of nil", got, what, e)
		}
		for i := range got {
			clear(got[i].R)
			clear(got[i].Up)
		}
		if !sameDoms(d, kept) {
			t.Error("shared memory")
		}
	}
	var zero search.Nogoods
	if zero.Len() != 0 || !zero.Holds(nil) || zero.Add(dec(0, branch.Eq, 1)) != api.OK || zero.Len() != 1 || zero.Holds([]api.Val{{N: 1}}) {
		t.Error("the zero one")
	}
}

// Rule 5: a list is not kept.
func TestAddOfItsOwn(t *testing.T) {
	l := []branch.Dec{dec(0, branch.Eq, 1), dec(1, branch.Eq, 2)}
	n := made(t, l, l)
	l[0], l[1] = dec(5, branch.Ne, 1), dec(5, branch.Ne, 1)
	if n.Holds([]api.Val{{N: 1}, {N: 2}}) || !n.Holds([]api.Val{{N: 1}, {N: 3}}) {
		t.Error("Holds")
	}
}

// P20.4: what is kept, and what is not.
func TestNogoodsHold(t *testing.T) {
	v := []api.Val{{N: 3}, {Set: true, S: list(1, 4)}, {N: -2}}
	for _, c := range []struct {
		l    []branch.Dec
		want bool
	}{
		{nil, false},
		{[]branch.Dec{dec(0, branch.Eq, 3)}, false},
		{[]branch.Dec{dec(0, branch.Ne, 3)}, true},
		{[]branch.Dec{dec(0, branch.Eq, 3), dec(1, branch.In, 4), dec(2, branch.Le, -2)}, false},
		{[]branch.Dec{dec(0, branch.Eq, 3), dec(1, branch.Out, 4), dec(2, branch.Le, -2)}, true},
		{[]branch.Dec{dec(0, branch.Eq, 3), dec(1, branch.In, 4), dec(2, branch.Gt, -2)}, true},
		{[]branch.Dec{dec(0, branch.Eq, 3), dec(3, branch.Ne, 4)}, true},
		{[]branch.Dec{dec(0, branch.Eq, 3), dec(-1, branch.Ne, 4)}, true},
		{[]branch.Dec{dec(math.MaxInt, branch.Eq, 3)}, true},
		{[]branch.Dec{dec(math.MinInt, branch.Eq, 3)}, true},
		{[]branch.Dec{dec(0, branch.Out, 3)}, true}, // of another kind
		{[]branch.Dec{dec(1, branch.Ne, 3)}, true},
	} {
		if got := made(t, c.l).Holds(v); got != c.want {
			t.Error("Holds", c.l, got)
		}
		n := made(t, []branch.Dec{dec(0, branch.Ne, 3)}, c.l, []branch.Dec{dec(0, branch.Gt, 3)})
		if got := n.Holds(v); got != c.want {
			t.Error("Holds of several", c.l, got)
		}
	}
	if !search.New().Holds(v) || !search.New().Holds(nil) || made(t, nil).Holds(nil) {
		t.Error("Holds of none")
	}
}

// allOf: does a decision hold of all values of its variable?
func allOf(x branch.Dec, d []api.Dom) bool {
	return x.Var >= 0 && x.Var < len(d) && !slices.ContainsFunc(values(d[x.Var]), func(v api.Val) bool { return !branch.Holds(x, v) })
}

// open is the decisions of a nogood that do not hold of all values.
func open(l []branch.Dec, d []api.Dom) []branch.Dec {
	return slices.DeleteFunc(slices.Clone(l), func(x branch.Dec) bool { return allOf(x, d) })
}

// P20.4: nogoods drawn by chance, against all assignments.
func TestNogoodsPrune(t *testing.T) {
	g := newGame(40)
	same, less, failed := 0, 0, 0
	for range 20000 {
		var d []api.Dom
		for range 1 + g.IntN(4) {
			d = append(d, g.dom(g.IntN(3) == 0))
		}
		var l [][]branch.Dec
		for range g.IntN(6) {
			var x []branch.Dec
			for range 1 + g.IntN(20)/5 {
				v := g.IntN(len(d)+2) - 1
				op := g.IntN(4)
				if v >= 0 && v < len(d) && d[v].Set != (g.IntN(9) == 0) {
					op = 4 + g.IntN(2)
				}
				x = append(x, dec(v, op, g.Int64N(8)-2))
			}
			l = append(l, x)
		}
		n := made(t, l...)
		kept := copyDoms(d)
		got, what, e := n.Prune(d)
		if e != api.OK || !sameDoms(d, kept) {
			t.Fatal("Prune", e)
		}
		switch what {
		case api.Same:
			same++
		case api.Less:
			less++
		case api.Fail:
			failed++
		}
		prunes(t, n, l, d, got, what)
	}
	if same < 1000 || less < 1000 || failed < 1000 {
		t.Error("too few of a kind", same, less, failed)
	}
}

// prunes asks what P20.4 says of what Prune answered.
func prunes(t *testing.T, n *search.Nogoods, l [][]branch.Dec, d, got []api.Dom, what int) {
	t.Helper()
	fail := func(why string) {
		t.Helper()
		t.Fatalf("%s: %v of %v: %v, %d", why, l, d, got, what)
	}
	must := slices.ContainsFunc(d, kinds.Empty) || slices.ContainsFunc(l, func(x []branch.Dec) bool { return len(open(x, d)) == 0 })
	if must && what != api.Fail {
		fail("it must fail")
	}
	if what == api.Fail {
		if len(got) != 0 {
			fail("domains beside a failure")
		}
		for v := range assignments(d) {
			if n.Holds(v) {
				fail("something is lost")
			}
		}
		return
	}
	changed := false
	for i := range d {
		if !kinds.Right(got[i]) || kinds.Empty(got[i]) || got[i].Set != d[i].Set {
			fail("no domain")
		}
		changed = changed || !kinds.Same(got[i], d[i])
		for _, v := range values(got[i]) {
			if !kinds.Has(d[i], v) {
				fail("not within")
			}
		}
	}
	if len(got) != len(d) || changed != (what == api.Less) || !changed && !sameDoms(got, d) {
		fail("what became of it")
	}
	for v := range assignments(d) {
		inside := !slices.ContainsFunc(slices.Collect(indexes(v)), func(i int) bool { return !kinds.Has(got[i], v[i]) })
		if n.Holds(v) && !inside {
			fail("something is lost")
		}
	}
	for _, x := range l {
		if rest := open(x, got); len(rest) == 0 || len(rest) == 1 && known(rest[0], got) && !allOf(branch.Not(rest[0]), got) {
			fail("a value only breaks a nogood")
		}
	}
}

// known: is it a decision of a variable that there is, of its kind?
func known(x branch.Dec, d []api.Dom) bool {
	return x.Var >= 0 && x.Var < len(d) && d[x.Var].Set == (x.Op >= branch.In)
}

func indexes(v []api.Val) func(func(int) bool) {
	return func(yield func(int) bool) {
		for i := range v {
			if !yield(i) {
				return
			}
		}
	}
}

// P20.4: by hand; domains that can not be are refused ahead of a failure.
func TestNogoodsPruneEdges(t *testing.T) {
	some := []api.Dom{num(r(1, 3)), num(r(2, 2)), set(nil, list(1, 2), 0, 2)}
	for _, c := range []struct {
		l    [][]branch.Dec
		want string
	}{
		{[][]branch.Dec{{dec(1, branch.Eq, 2), dec(0, branch.Eq, 2)}}, "1 1,3"},
		{[][]branch.Dec{{dec(0, branch.Eq, 2), dec(0, branch.Eq, 2)}}, "1 1,3"},
		{[][]branch.Dec{{dec(1, branch.Eq, 2), dec(0, branch.Ne, 2)}}, "1 2"},
		{[][]branch.Dec{{dec(1, branch.Gt, 1), dec(0, branch.Le, 2)}}, "1 3"},
		{[][]branch.Dec{{dec(1, branch.Gt, 1), dec(0, branch.Gt, 2)}}, "1 1..2"},
		{[][]branch.Dec{{dec(0, branch.Le, 3), dec(1, branch.Ne, 2)}}, "0 1..3"},
		{[][]branch.Dec{{dec(0, branch.Le, 3), dec(1, branch.Ne, 3)}}, "2 "},
		{[][]branch.Dec{{dec(0, branch.Eq, 1)}, {dec(0, branch.Eq, 3)}}, "1 2"},
		{[][]branch.Dec{{dec(0, branch.Gt, 1), dec(1, branch.Eq, 2)}, {dec(0, branch.Ne, 2)}}, "2 "}, // one behind the other
		{[][]branch.Dec{{dec(0, branch.Eq, 2), dec(2, branch.In, 1)}, {dec(0, branch.Ne, 2)}}, "1 2"},
		{[][]branch.Dec{{}}, "2 "},
		{[][]branch.Dec{{dec(3, branch.Eq, 1)}, {dec(-1, branch.Ne, 1)}, {dec(0, branch.In, 1)}, {dec(2, branch.Ne, 1)}}, "0 1..3"},
		{[][]branch.Dec{{dec(0, branch.Eq, least)}, {dec(0, branch.Gt, greatest)}}, "0 1..3"},
		{[][]branch.Dec{{dec(0, branch.Le, greatest)}}, "2 "},
	} {
		d, what, e := made(t, c.l...).Prune(some)
		got := fmt.Sprint(what, " ")
		if len(d) > 0 {
			got += dom.Text(d[0].R)
		}
		if got != c.want || e != api.OK {
			t.Error("Prune", c.l, got, c.want, e)
		}
	}
	for _, n := range []*search.Nogoods{search.New(), made(t, nil), made(t, []branch.Dec{dec(0, branch.Eq, 1)})} {
		for _, w := range []api.Dom{num(r(2, 1)), {Least: 1}, set(list(1), nil, 1, 1), num(r(least, greatest))} {
			for _, d := range [][]api.Dom{{w}, {num(), w}, {w, num(r(1, 1))}} {
				if got, what, e := n.Prune(d); got != nil || what != 0 || e != api.ErrDom {
					t.Error("Prune of what can not be", got, what, e)
				}
			}
		}
		if got, what, e := n.Prune([]api.Dom{num(r(1, 2)), num()}); got != nil || what != api.Fail || e != api.OK {
			t.Error("Prune of nothing", got, what, e)
		}
	}
	if got, what, e := made(t, []branch.Dec{dec(0, branch.Eq, 1)}).Prune(nil); len(got) != 0 || what != api.Same || e != api.OK {
		t.Error("Prune of no variables", got, what, e)
	}
}

// P20.4: where there would be too many ranges, the domain may stay, but nothing is lost; where there would not, it goes.
func TestNogoodsPruneAtTheLimit(t *testing.T) {
	d := []api.Dom{comb(api.MaxRanges)}
	size := dom.Size(d[0].R)
	got, what, e := made(t, []branch.Dec{dec(0, branch.Eq, 1)}).Prune(d)
	if e != api.OK || what != api.Same || dom.Size(got[0].R) != size {
		t.Error("Prune", what, e)
	}
	got, what, e = made(t, []branch.Dec{dec(0, branch.Eq, 1)}, []branch.Dec{dec(0, branch.Eq, 2)}, []branch.Dec{dec(0, branch.Gt, 16378)}).Prune(d)
	if e != api.OK || what != api.Less || dom.Size(got[0].R) != size-5 || dom.Has(got[0].R, 1) || dom.Has(got[0].R, 2) {
		t.Error("Prune", what, e, dom.Size(got[0].R), size)
	}
}

// Rule 4: what Prune answers is new memory.
func TestNogoodsPruneAnswersAnew(t *testing.T) {
	d := []api.Dom{num(r(1, 3)), set(list(1), list(1, 2, 3), 1, 3)}
	kept := copyDoms(d)
	n := made(t, []branch.Dec{dec(0, branch.Eq, 2)})
	for _, n := range []*search.Nogoods{n, search.New()} {
		got, _, _ := n.Prune(d)
		for i := range got {
			clear(got[i].R)
			clear(got[i].Lo)
			clear(got[i].Up)
		}
		if !sameDoms(d, kept) {
			t.Error("shared memory")
		}
	}
}

// Many and long ones, each of which goes on where another one ends.
func TestManyNogoods(t *testing.T) {
	d := many(api.MaxVars, comb(api.MaxRanges))
	n := search.New()
	for i := api.MaxVars - 2; i >= 0; i-- {
		l := make([]branch.Dec, 0, api.MaxArray)
		for k := range api.MaxArray - 2 {
			l = append(l, dec(k, branch.Gt, -1))
		}
		if e := n.Add(append(l, dec(i, branch.Eq, 0), dec(i+1, branch.Ne, 0))...); e != api.OK {
			t.Fatal("Add", e)
		}
	}
	n.Add(dec(0, branch.Ne, 0))
	got, what, e := n.Prune(d)
	if e != api.OK || what != api.Less || dom.Text(got[api.MaxVars-1].R) != "0" {
		t.Error("Prune", what, e)
	}
}
