package store_test

import (
	"math/rand"
	"slices"
	"testing"

	"jigsaw/api"
	"jigsaw/store"
)

// P6.3, P6.5: several depths, and each brought back.
func TestPushAndPop(t *testing.T) {
	s := made(t, num(r(0, 9)), set(nil, list(1, 2, 3), 0, 3))
	narrow(t, s, 0, num(r(0, 8)), api.Less) // at the depth 0: never brought back
	errs(t, "Pop at the depth 0", s.Pop(), api.ErrState)
	domain(t, s, 0, num(r(0, 8)))
	errs(t, "Push", s.Push(), api.OK)
	narrow(t, s, 0, num(r(0, 7)), api.Less)
	narrow(t, s, 0, num(r(1, 7)), api.Less)
	errs(t, "Push", s.Push(), api.OK)
	errs(t, "Push", s.Push(), api.OK)
	narrow(t, s, 0, num(r(3, 3), r(5, 6)), api.Less)
	narrow(t, s, 1, set(list(2), list(1, 2), 1, 2), api.Less)
	narrow(t, s, 0, num(r(3, 3)), api.Less)
	if s.Depth() != 3 {
		t.Error("Depth", s.Depth())
	}
	errs(t, "Pop", s.Pop(), api.OK)
	domain(t, s, 0, num(r(1, 7)))
	domain(t, s, 1, set(nil, list(1, 2, 3), 0, 3))
	narrow(t, s, 1, set(nil, list(1, 2, 3), 2, 3), api.Less)
	narrow(t, s, 0, num(r(4, 4)), api.Less)
	errs(t, "Pop", s.Pop(), api.OK)
	domain(t, s, 0, num(r(1, 7)))
	domain(t, s, 1, set(nil, list(1, 2, 3), 0, 3))
	errs(t, "Pop", s.Pop(), api.OK)
	domain(t, s, 0, num(r(0, 8)))
	errs(t, "Pop at the depth 0", s.Pop(), api.ErrState)
	if s.Depth() != 0 {
		t.Error("Depth", s.Depth())
	}
	domain(t, s, 0, num(r(0, 8)))
}

// P6.3: the depth goes to MaxVars times MaxScan, and no further.
func TestDepth(t *testing.T) {
	const deepest = api.MaxVars * api.MaxScan
	s := made(t, num(r(0, 9)))
	for i := range deepest {
		if e := s.Push(); e != api.OK || s.Depth() != i+1 {
			t.Fatal("Push", i, e, s.Depth())
		}
		if i == 5 || i == deepest-1 {
			s.Narrow(0, num(r(int64(i%7+1), 9)))
		}
	}
	domain(t, s, 0, num(r(6, 9)))
	for range 2 {
		if e := s.Push(); e != api.ErrFull || s.Depth() != deepest {
			t.Error("Push at the greatest depth", e, s.Depth())
		}
	}
	errs(t, "Pop", s.Pop(), api.OK)
	errs(t, "Push", s.Push(), api.OK)
	errs(t, "Push", s.Push(), api.ErrFull)
	for i := deepest; i > 0; i-- {
		if e := s.Pop(); e != api.OK || s.Depth() != i-1 {
			t.Fatal("Pop", i, e)
		}
	}
	domain(t, s, 0, num(r(0, 9)))
	errs(t, "Pop", s.Pop(), api.ErrState)
}

// P6.3: of a store that has failed; what was empty from the beginning stays so.
func TestPopOfFailed(t *testing.T) {
	s := made(t, num(r(0, 9)), num(r(0, 9)))
	errs(t, "Push", s.Push(), api.OK)
	narrow(t, s, 0, num(r(0, 4)), api.Less)
	errs(t, "Push", s.Push(), api.OK)
	narrow(t, s, 0, num(r(5, 9)), api.Fail)
	errs(t, "Push", s.Push(), api.OK)
	errs(t, "Pop", s.Pop(), api.OK)
	if !s.Failed() {
		t.Error("it failed ahead of the last Push")
	}
	errs(t, "Pop", s.Pop(), api.OK)
	if s.Failed() {
		t.Error("failed still")
	}
	domain(t, s, 0, num(r(0, 4)))
	s = made(t, num(), noSet())
	errs(t, "Push", s.Push(), api.OK)
	errs(t, "Pop", s.Pop(), api.OK)
	if !s.Failed() || !sameDoms(s.All(), []api.Dom{num(), noSet()}) {
		t.Error("Pop", s.All())
	}
	s = made(t, num(r(1, 2)))
	narrow(t, s, 0, num(r(5, 6)), api.Fail)
	errs(t, "Pop", s.Pop(), api.ErrState)
	if !s.Failed() {
		t.Error("it failed at the depth 0")
	}
}

// P6.4: each variable once, rising, with the strongest of what happened.
func TestEvents(t *testing.T) {
	s := made(t, num(r(0, 9)), num(r(0, 9)), set(nil, list(1, 2, 3), 0, 2), num(r(0, 9)), num(r(0, 1)))
	events(t, s)
	narrow(t, s, 3, num(r(0, 3), r(5, 9)), api.Less)             // Inside
	narrow(t, s, 1, num(r(2, 9)), api.Less)                      // Bounds
	narrow(t, s, 1, num(r(2, 4), r(6, 9)), api.Less)             // Inside behind it
	narrow(t, s, 0, num(r(0, 4), r(6, 9)), api.Less)             // Inside
	narrow(t, s, 0, num(r(0, 8)), api.Less)                      // Bounds behind it
	narrow(t, s, 2, set(nil, list(1, 2), 0, 2), api.Less)        // Inside
	narrow(t, s, 2, set(nil, list(1, 2), 0, 2), api.Same)        // nothing
	narrow(t, s, 4, num(r(0, 1)), api.Same)                      // nothing
	events(t, s, 0, 2, 1, 2, 2, 3, 3, 3)                         // rising
	events(t, s)                                                 // told once
	narrow(t, s, 2, set(list(1), list(1, 2, 3), 1, 3), api.Less) // Bounds
	narrow(t, s, 2, set(nil, list(1, 5), 0, 2), api.Less)        // Fixed
	narrow(t, s, 4, num(r(1, 2)), api.Less)                      // Fixed
	narrow(t, s, 3, num(r(0, 3), r(5, 7), r(9, 9)), api.Less)    // Inside again
	events(t, s, 2, 1, 3, 3, 4, 1)
	events(t, s)
	if store.Fixed != 1 || store.Bounds != 2 || store.Inside != 3 {
		t.Error("Fixed, Bounds, Inside")
	}
}

// P6.4: of a set Lo, Least or Most is a bound, Up alone is none.
func TestEventsOfSets(t *testing.T) {
	whole := set(nil, list(1, 2, 3, 4), 0, 4)
	for _, c := range []struct {
		old, d api.Dom
		why    int
	}{
		{whole, set(list(2), list(1, 2, 3, 4), 1, 4), store.Bounds},
		{whole, set(nil, list(1, 2, 3, 4), 1, 4), store.Bounds},
		{whole, set(nil, list(1, 2, 3, 4), 0, 3), store.Bounds},
		{whole, set(nil, list(1, 2, 3), 0, 3), store.Bounds}, // Most goes along
		{set(nil, list(1, 2, 3, 4), 0, 3), set(nil, list(1, 2, 3), 0, 3), store.Inside},
		{set(list(1), list(1, 2, 3, 4), 2, 3), set(nil, list(1, 2, 3), 0, 3), store.Inside},
		{set(list(1), list(1, 2, 3, 4), 2, 4), set(nil, list(1, 2, 3), 0, 3), store.Bounds},
		{set(nil, list(1, 2, 3, 4), 1, 3), set(list(1), list(1, 2, 3, 4), 1, 4), store.Bounds}, // Lo alone
		{whole, set(list(1, 2), list(1, 2), 2, 2), store.Fixed},
		{whole, set(nil, nil, 0, 0), store.Fixed},
	} {
		s := made(t, c.old)
		narrow(t, s, 0, c.d, api.Less)
		events(t, s, 0, c.why)
	}
}

// P6.4: of what becomes empty nothing is told, even if something happened to it ahead of that.
func TestEventsOfFailed(t *testing.T) {
	s := made(t, num(r(0, 9)), num(r(0, 9)), set(nil, list(1, 2), 0, 2))
	narrow(t, s, 1, num(r(0, 3)), api.Less)
	narrow(t, s, 0, num(r(0, 3)), api.Less)
	narrow(t, s, 0, num(r(5, 9)), api.Fail)
	events(t, s, 1, 2)
	events(t, s)
	s = made(t, set(nil, list(1, 2), 0, 2))
	narrow(t, s, 0, noSet(), api.Fail)
	events(t, s)
}

// P6.4: what happened is forgotten by Pop, not by Push.
func TestEventsAndPop(t *testing.T) {
	s := made(t, num(r(0, 9)), num(r(0, 9)))
	narrow(t, s, 0, num(r(0, 8)), api.Less)
	errs(t, "Push", s.Push(), api.OK)
	events(t, s, 0, 2)
	narrow(t, s, 0, num(r(0, 7)), api.Less)
	errs(t, "Push", s.Push(), api.OK)
	narrow(t, s, 1, num(r(4, 4)), api.Less)
	events(t, s, 0, 2, 1, 1)
	narrow(t, s, 0, num(r(0, 6)), api.Less)
	errs(t, "Pop", s.Pop(), api.OK)
	events(t, s)
	narrow(t, s, 1, num(r(0, 3), r(5, 9)), api.Less)
	events(t, s, 1, 3) // what was told before Pop plays no part
	narrow(t, s, 0, num(r(0, 2)), api.Less)
	errs(t, "Pop", s.Pop(), api.OK)
	narrow(t, s, 0, num(r(0, 5)), api.Less)
	errs(t, "Pop at the depth 0", s.Pop(), api.ErrState)
	events(t, s, 0, 2) // a refused Pop forgets nothing
}

// Example 1.
func TestExample(t *testing.T) {
	s := made(t, num(r(1, 9)), num(r(0, 1)))
	errs(t, "Push", s.Push(), api.OK)
	narrow(t, s, 0, num(r(3, 3)), api.Less)
	if v, ok := s.Value(0); !ok || !sameVal(v, api.Val{N: 3}) {
		t.Error("Value", v, ok)
	}
	events(t, s, 0, store.Fixed)
	narrow(t, s, 1, num(), api.Fail)
	if !s.Failed() {
		t.Error("not failed")
	}
	errs(t, "Pop", s.Pop(), api.OK)
	if !sameDoms(s.All(), []api.Dom{num(r(1, 9)), num(r(0, 1))}) {
		t.Error("All", s.All())
	}
}

// model is what a store should be, kept whole at each Push.
type model struct {
	doms  []api.Dom
	stack [][]api.Dom
	why   map[int]int
}

func (m *model) failed() bool {
	return slices.ContainsFunc(m.doms, func(d api.Dom) bool { return len(values(d)) == 0 })
}

func (m *model) narrow(v int, d api.Dom) (int, api.Errno) {
	old := m.doms[v]
	if old.Set != d.Set {
		return 0, api.ErrDom
	}
	if m.failed() {
		return 0, api.ErrState
	}
	next := both(old, d)
	m.doms = slices.Clone(m.doms)
	m.doms[v] = next
	switch n := len(values(next)); n {
	case 0:
		delete(m.why, v)
		return api.Fail, api.OK
	case len(values(old)):
		return api.Same, api.OK
	}
	if why := happened(old, next); m.why[v] == 0 || why < m.why[v] {
		m.why[v] = why
	}
	return api.Less, api.OK
}

func (m *model) pop() api.Errno {
	if len(m.stack) == 0 {
		return api.ErrState
	}
	m.doms, m.stack = m.stack[len(m.stack)-1], m.stack[:len(m.stack)-1]
	clear(m.why)
	return api.OK
}

// events is what happened, by variables and why.
func (m *model) events() []int {
	var out []int
	for v := range m.doms {
		if m.why[v] != 0 {
			out = append(out, v, m.why[v])
		}
	}
	clear(m.why)
	return out
}

// P6.1 to P6.6: any calls, held against a model that keeps all domains at each Push.
func TestAnyCalls(t *testing.T) {
	rnd := rand.New(rand.NewSource(6))
	nums, families := numDoms(), setDoms()
	any := func() api.Dom {
		l := nums
		if rnd.Intn(2) == 0 {
			l = families
		}
		if rnd.Intn(3) > 0 { // those with many values, so that it does not fail at once
			return l[len(l)-1-rnd.Intn(len(l)/3)]
		}
		return l[rnd.Intn(len(l))]
	}
	for range 300 {
		m := &model{why: map[int]int{}}
		for range 1 + rnd.Intn(6) {
			m.doms = append(m.doms, tight(any()))
		}
		s := made(t, m.doms...)
		for range 80 {
			step(t, rnd, s, m, any())
			if !sameDoms(s.All(), m.doms) || s.Failed() != m.failed() || s.Depth() != len(m.stack) {
				t.Fatal("not as the model", s.All(), m.doms, s.Depth())
			}
		}
	}
}

// tight is a domain made tight, if it is one of a set.
func tight(d api.Dom) api.Dom { return both(d, d) }

// step is one call of both.
func step(t *testing.T, rnd *rand.Rand, s *store.Store, m *model, d api.Dom) {
	t.Helper()
	switch rnd.Intn(8) {
	case 0, 1:
		m.stack = append(m.stack, m.doms)
		errs(t, "Push", s.Push(), api.OK)
	case 2:
		errs(t, "Pop", s.Pop(), m.pop())
	case 3:
		events(t, s, m.events()...)
	default:
		v := rnd.Intn(len(m.doms))
		before := m.doms[v]
		want, wantErr := m.narrow(v, d)
		got, e := s.Narrow(v, d)
		if got != want || e != wantErr {
			t.Error("Narrow", v, before, d, got, e, want, wantErr)
		}
		for _, x := range values(m.doms[v]) { // within what it was
			if !slices.Contains(values(before), x) {
				t.Error("more than it was", before, m.doms[v])
			}
		}
	}
}
