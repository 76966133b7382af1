package store_test

import (
	"math"
	"slices"
	"testing"

	"jigsaw/api"
	"jigsaw/sets"
	"jigsaw/store"
)

// P6.1: domains that can be, and the store of them.
func TestNew(t *testing.T) {
	l := []api.Dom{num(r(1, 9)), num(), num(r(-maxBig, -5), r(maxBig, maxBig)), num(comb(api.MaxRanges, 0)...), set(nil, nil, 0, 0), set(list(1), list(1, 2), 1, 2), noSet(), set(nil, run(64, -9), 3, 64)}
	s := made(t, l...)
	if s.Len() != len(l) || s.Depth() != 0 || !s.Failed() || !sameDoms(s.All(), l) || len(s.Events()) != 0 {
		t.Error("New", s.Len(), s.Depth(), s.Failed(), s.All())
	}
	for v, d := range l {
		domain(t, s, v, d)
	}
	for _, none := range [][]api.Dom{nil, {}} {
		s := made(t, none...)
		got, ok := s.Solution()
		if s.Len() != 0 || s.Failed() || len(s.All()) != 0 || len(got) != 0 || !ok {
			t.Error("of no variables", s.Len(), got, ok)
		}
	}
}

// P6.1: each domain that can not be, wherever it stands.
func TestNewOfWrongDomains(t *testing.T) {
	for _, d := range wrongDoms() {
		for _, l := range [][]api.Dom{{d}, {num(r(1, 9)), d}, {d, noSet()}} {
			if s, e := store.New(l); s != nil || e != api.ErrDom {
				t.Error("New", l, e)
			}
		}
	}
}

// P6.1: MaxVars domains, and one more, whatever they are.
func TestNewOfMany(t *testing.T) {
	l := slices.Repeat([]api.Dom{num(r(0, 1))}, api.MaxVars)
	if s := made(t, l...); s.Len() != api.MaxVars {
		t.Error("Len", s.Len())
	}
	for _, d := range append(wrongDoms(), l[0]) {
		if s, e := store.New(append(l, d)); s != nil || e != api.ErrFull {
			t.Error("New of one too many", e)
		}
	}
}

// P6.1: sets' domains are made tight.
func TestNewIsTight(t *testing.T) {
	all := setDoms()
	s := made(t, all...)
	for v, d := range all {
		domain(t, s, v, sets.Both(d, d))
		if got, _ := s.Get(v); !slices.Equal(values(got), values(d)) {
			t.Error("not the same sets", d, got)
		}
	}
	if !sameDoms(s.All()[:1], []api.Dom{noSet()}) || !s.Failed() {
		t.Error("the empty one", s.All()[0])
	}
	s = made(t, set(nil, list(1, 2), 2, 2), set(list(5), list(4, 5), 1, 1))
	domain(t, s, 0, set(list(1, 2), list(1, 2), 2, 2))
	domain(t, s, 1, set(list(5), list(5), 1, 1))
	if v, ok := s.Value(0); !ok || !sameVal(v, api.Val{Set: true, S: list(1, 2)}) {
		t.Error("Value", v, ok)
	}
}

// P6.1: of nil, and of a store that New did not make.
func TestNil(t *testing.T) {
	var none *store.Store
	for v := -1; v < 2; v++ {
		d, e := none.Get(v)
		errs(t, "Get", e, api.ErrNil)
		alikeDom(t, "Get", d, api.Dom{})
		n, e := none.Narrow(v, num(r(2, 1)))
		errs(t, "Narrow", e, api.ErrNil)
		if val, ok := none.Value(v); n != 0 || ok || !sameVal(val, api.Val{}) {
			t.Error("Value", val, ok)
		}
	}
	errs(t, "Push", none.Push(), api.ErrNil)
	errs(t, "Pop", none.Pop(), api.ErrNil)
	if l, ok := none.Solution(); l != nil || ok || none.Len() != 0 || none.Depth() != 0 || none.Failed() || none.Events() != nil || none.All() != nil {
		t.Error("of nil there is something")
	}
	bare := new(store.Store)
	errs(t, "Pop", bare.Pop(), api.ErrState)
	errs(t, "Push", bare.Push(), api.OK)
	if _, e := bare.Narrow(0, num()); e != api.ErrArg || bare.Len() != 0 || bare.Depth() != 1 || bare.Failed() || len(bare.Events()) != 0 || len(bare.All()) != 0 {
		t.Error("of a store without variables", e)
	}
}

// P6.1: a variable that there is not.
func TestNoVariable(t *testing.T) {
	s := made(t, num(r(3, 3)), set(nil, nil, 0, 0))
	for _, v := range []int{-1, 2, 3, math.MinInt, math.MaxInt} {
		d, e := s.Get(v)
		errs(t, "Get", e, api.ErrArg)
		alikeDom(t, "Get", d, api.Dom{})
		if val, ok := s.Value(v); ok || !sameVal(val, api.Val{}) {
			t.Error("Value", v, val)
		}
		for _, d := range append(wrongDoms(), num(), noSet(), num(r(1, 2))) {
			n, e := s.Narrow(v, d)
			errs(t, "Narrow", e, api.ErrArg)
			if n != 0 {
				t.Error("Narrow", n)
			}
		}
	}
}

// P6.1: the only value, of all small domains.
func TestValue(t *testing.T) {
	for _, d := range slices.Concat(numDoms(), setDoms()) {
		s := made(t, d)
		want := values(d)
		got, ok := s.Value(0)
		all, okAll := s.Solution()
		if ok != (len(want) == 1) || okAll != ok || s.Failed() != (len(want) == 0) {
			t.Error("Value, Solution, Failed", d, got, ok, okAll)
		}
		if !ok {
			if !sameVal(got, api.Val{}) || all != nil {
				t.Error("beside false there is something", d, got, all)
			}
			continue
		}
		fixed := api.Val{Set: d.Set}
		if d.Set {
			fixed.S, _ = sets.Fixed(d)
		} else {
			fixed.N = d.R[0].Lo
		}
		if !sameVal(got, fixed) || len(all) != 1 || !sameVal(all[0], fixed) {
			t.Error("Value, Solution", d, got, all)
		}
	}
}

// P6.1: the only values of all; none, if one of them has not just one.
func TestSolution(t *testing.T) {
	s := made(t, num(r(3, 3)), set(list(1), list(1, 2), 1, 2), num(r(-1, 0)))
	want := []api.Val{{N: 3}, {Set: true, S: list(1)}, {N: -1}}
	for _, step := range []struct {
		v int
		d api.Dom
	}{{2, num(r(-7, -1))}, {1, set(nil, list(1, 3), 0, 2)}} {
		if l, ok := s.Solution(); ok || l != nil {
			t.Error("Solution", l)
		}
		narrow(t, s, step.v, step.d, api.Less)
	}
	if l, ok := s.Solution(); !ok || !slices.EqualFunc(l, want, sameVal) {
		t.Error("Solution", l, ok)
	}
	narrow(t, s, 0, num(), api.Fail)
	if l, ok := s.Solution(); ok || l != nil {
		t.Error("Solution of a failed one", l)
	}
}

// P6.2, P6.4: all pairs of small domains of one kind.
func TestNarrow(t *testing.T) {
	for _, all := range [][]api.Dom{numDoms(), setDoms()} {
		for _, a := range all[1:] {
			for _, b := range all {
				s := made(t, a)
				old, _ := s.Get(0)
				want, become := both(a, b), api.Less
				switch len(values(want)) {
				case 0:
					become = api.Fail
				case len(values(a)):
					become = api.Same
				}
				narrow(t, s, 0, b, become)
				domain(t, s, 0, want)
				if s.Failed() != (become == api.Fail) {
					t.Error("Failed", a, b)
				}
				if why := happened(old, want); why != 0 {
					events(t, s, 0, why)
				}
				events(t, s)
			}
		}
	}
}

// P6.2: a domain that can not be, or is of the other kind, changes nothing; ErrDom ahead of ErrState.
func TestNarrowOfWrongDomains(t *testing.T) {
	s := made(t, num(r(1, 9)), set(nil, list(1, 2), 0, 2))
	before := s.All()
	wrong := func() {
		for v, other := range []api.Dom{set(nil, list(1), 0, 1), num(r(1, 1))} {
			for _, d := range append(wrongDoms(), other, map[int]api.Dom{0: noSet(), 1: num()}[v]) {
				n, e := s.Narrow(v, d)
				errs(t, "Narrow", e, api.ErrDom)
				if n != 0 {
					t.Error("Narrow", v, d, n)
				}
			}
		}
	}
	wrong()
	if !sameDoms(s.All(), before) || s.Failed() || len(s.Events()) != 0 {
		t.Error("a refused call changed something", s.All())
	}
	errs(t, "Push", s.Push(), api.OK)
	narrow(t, s, 0, num(), api.Fail)
	wrong()
}

// P6.2: of a store that has failed nothing becomes smaller.
func TestNarrowOfFailed(t *testing.T) {
	s := made(t, num(r(1, 9)), set(nil, list(1, 2), 0, 2), num(r(0, 1)))
	errs(t, "Push", s.Push(), api.OK)
	narrow(t, s, 1, set(list(3), list(3), 1, 1), api.Fail)
	before := s.All()
	for v, d := range []api.Dom{num(r(1, 9)), set(nil, list(1, 2), 0, 2), num()} {
		n, e := s.Narrow(v, d)
		errs(t, "Narrow", e, api.ErrState)
		if n != 0 {
			t.Error("Narrow", n)
		}
	}
	if !s.Failed() || !sameDoms(s.All(), before) {
		t.Error("a refused call changed something", s.All())
	}
	domain(t, s, 1, noSet())
	errs(t, "Pop", s.Pop(), api.OK)
	if s.Failed() {
		t.Error("failed still")
	}
	narrow(t, s, 2, num(r(1, 1)), api.Less)
	failed := made(t, num(r(1, 2)), num())
	if _, e := failed.Narrow(0, num(r(1, 1))); e != api.ErrState || !failed.Failed() {
		t.Error("failed from the beginning", e)
	}
}

// P6.2: where both would have too many ranges, the domain stays as it is.
func TestNarrowOfManyRanges(t *testing.T) {
	a := append(comb(api.MaxRanges-1, 0), r(20000, 40000))
	b := append([]api.Range{r(-10, 10000)}, comb(api.MaxRanges-1, 20000)...)
	s := made(t, num(a...))
	narrow(t, s, 0, num(b...), api.Same)
	domain(t, s, 0, num(a...))
	events(t, s)
	narrow(t, s, 0, num(r(20000, 40000)), api.Less)
	narrow(t, s, 0, num(b...), api.Less)
	domain(t, s, 0, num(comb(api.MaxRanges-1, 20000)...))
}

// P6.7: two domains, one behind the other, and what is in both of them.
func TestNarrowByTwo(t *testing.T) {
	for _, all := range [][]api.Dom{numDoms(), setDoms()} {
		for _, start := range []api.Dom{all[len(all)-1], all[len(all)/2], all[len(all)-3]} {
			for _, a := range all {
				for _, b := range all {
					ab, ba, once := made(t, start), made(t, start), made(t, start)
					ab.Narrow(0, a)
					ab.Narrow(0, b)
					ba.Narrow(0, b)
					ba.Narrow(0, a)
					once.Narrow(0, both(a, b))
					if !sameDoms(ab.All(), once.All()) || !sameDoms(ba.All(), once.All()) {
						t.Error("Narrow", start, a, b, ab.All(), ba.All(), once.All())
					}
				}
			}
		}
	}
}

// Rules 4 and 5: no list that is handed in is kept, and none that is handed out is seen again.
func TestListsAreNew(t *testing.T) {
	spoil := func(l ...api.Dom) {
		for i, d := range l {
			for k := range d.R {
				d.R[k] = r(-77, 77)
			}
			for k := range d.Lo {
				d.Lo[k] = -77
			}
			for k := range d.Up {
				d.Up[k] = 77
			}
			_, _, _ = append(d.R, r(78, 78)), append(d.Lo, 78), append(d.Up, 78)
			l[i] = api.Dom{}
		}
	}
	domains := func() []api.Dom {
		return []api.Dom{num(r(1, 3), r(5, 9)), set(list(1), list(1, 2, 3), 1, 2), set(list(4), list(4), 1, 1)}
	}
	smaller := []api.Dom{num(r(2, 6)), set(nil, list(1, 2), 0, 2)}
	given := domains()
	s := made(t, given...)
	spoil(given...)
	asked := func(want []api.Dom) {
		t.Helper()
		for range 2 {
			l := s.All()
			if !sameDoms(l, want) {
				t.Error("All", l)
			}
			spoil(l...)
			for v := range want {
				d, _ := s.Get(v)
				alikeDom(t, "Get", d, want[v])
				spoil(d)
			}
			val, _ := s.Value(2)
			if !sameVal(val, api.Val{Set: true, S: list(4)}) {
				t.Error("Value", val)
			}
			val.S[0] = 77
		}
	}
	asked(domains())
	errs(t, "Push", s.Push(), api.OK)
	for v := range smaller {
		d := api.Dom{Set: smaller[v].Set, R: slices.Clone(smaller[v].R), Up: slices.Clone(smaller[v].Up), Most: smaller[v].Most}
		narrow(t, s, v, d, api.Less)
		alikeDom(t, "what Narrow was given", d, smaller[v])
		spoil(d)
	}
	asked([]api.Dom{num(r(2, 3), r(5, 6)), set(list(1), list(1, 2), 1, 2), domains()[2]})
	l := s.Events()
	l[0] = store.Event{Var: 9, Why: 9}
	events(t, s)
	errs(t, "Pop", s.Pop(), api.OK)
	asked(domains())
	fixed := made(t, set(list(4), list(4), 1, 1))
	for range 2 {
		got, _ := fixed.Solution()
		if !slices.EqualFunc(got, []api.Val{{Set: true, S: list(4)}}, sameVal) {
			t.Error("Solution", got)
		}
		got[0].S[0] = 77
	}
}

// P6.1: New changes none of the domains that it is given.
func TestNewChangesNothing(t *testing.T) {
	l := []api.Dom{num(r(1, 3)), set(nil, list(1, 2), 2, 2)}
	made(t, l...)
	if !sameDoms(l, []api.Dom{num(r(1, 3)), set(nil, list(1, 2), 2, 2)}) {
		t.Error("New changed", l)
	}
}
