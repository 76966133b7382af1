package prune_test

import (
	"fmt"
	"testing"

	"jigsaw/api"
	"jigsaw/cons"
	"jigsaw/kinds"
	"jigsaw/prune"
	"jigsaw/store"
)

// engine is an engine over a new store of these domains.
func engine(t *testing.T, texts []string, from string) (*prune.Engine, *store.Store) {
	t.Helper()
	s := stored(t, doms(t, from))
	g, e := prune.New(parsed(t, texts...), s)
	if e != api.OK {
		t.Fatal("New", texts, e)
	}
	return g, s
}

// runs asks what Run answers, and what the store's domains are then.
func runs(t *testing.T, g *prune.Engine, s *store.Store, what int, e api.Errno, left string) {
	t.Helper()
	gotWhat, gotE := g.Run()
	if got := told(s.All()); gotWhat != what || gotE != e || got != left {
		t.Errorf("Run: %d, %d, %s; want %d, %d, %s", gotWhat, gotE, got, what, e, left)
	}
}

// P14.3: engines and stores that are nil.
func TestNil(t *testing.T) {
	ok := parsed(t, "int_lt(1, 2)")
	for _, l := range [][]api.Con{nil, ok, {{}}, make([]api.Con, api.MaxCons+1)} {
		if g, e := prune.New(l, nil); g != nil || e != api.ErrNil {
			t.Error("New", g, e)
		}
	}
	var g *prune.Engine
	if e := g.Add(ok[0]); e != api.ErrNil {
		t.Error("Add", e)
	}
	if e := g.Add(api.Con{}); e != api.ErrNil {
		t.Error("Add", e)
	}
	if what, e := g.Run(); what != 0 || e != api.ErrNil {
		t.Error("Run", what, e)
	}
	if g.Over() || g.Len() != 0 {
		t.Error("Over, Len", g.Over(), g.Len())
	}
	var zero prune.Engine
	if what, e := zero.Run(); what != api.Same || e != api.OK || zero.Add(ok[0]) != api.OK || zero.Len() != 1 || zero.Over() {
		t.Error("the zero engine", what, e)
	}
	if what, e := zero.Run(); what != api.Same || e != api.OK {
		t.Error("the zero engine", what, e)
	}
}

// P14.3: the limits; what is refused is not added.
func TestEngineLimits(t *testing.T) {
	s := stored(t, manyDoms(api.MaxVars, num(r(-maxBig, maxBig))))
	if g, e := prune.New(manyCons(api.MaxCons+1), s); g != nil || e != api.ErrFull {
		t.Error("New", e)
	}
	if g, e := prune.New(make([]api.Con, api.MaxCons+1), s); g != nil || e != api.ErrFull {
		t.Error("New", e)
	}
	if g, e := prune.New(manyCons(api.MaxCons), s); e != api.OK || g.Len() != api.MaxCons {
		t.Error("New", e)
	}
	g, e := prune.New(manyCons(api.MaxCons-1), s)
	if e != api.OK || g.Len() != api.MaxCons-1 {
		t.Fatal("New", e)
	}
	one := manyCons(1)[0]
	for c, want := range map[*api.Con]api.Errno{{}: api.ErrKind, {Name: "int_lt"}: api.ErrCon, {Name: "fzn_circuit", Args: []api.Arg{cons.List(make([]api.Term, api.MaxArray+1)...)}}: api.ErrSize} {
		if e := g.Add(*c); e != want || g.Len() != api.MaxCons-1 {
			t.Error("Add", c.Name, e, g.Len())
		}
	}
	if e := g.Add(one); e != api.OK || g.Len() != api.MaxCons {
		t.Error("Add", e, g.Len())
	}
	for _, c := range []api.Con{one, {}} {
		if e := g.Add(c); e != api.ErrFull || g.Len() != api.MaxCons {
			t.Error("Add to a full one", e, g.Len())
		}
	}
	if what, e := g.Run(); what != api.Less || e != api.OK {
		t.Error("Run", what, e)
	}
	if d, _ := s.Get(0); !sameDom(d, num(r(-maxBig, maxBig-api.MaxVars+1))) {
		t.Error("Run", told([]api.Dom{d}))
	}
	if what, e := g.Run(); what != api.Same || e != api.OK {
		t.Error("Run", what, e)
	}
}

// P14.3: Run until nothing changes; Add behind it; what Narrow changed.
func TestRun(t *testing.T) {
	g, s := engine(t, []string{"int_lt(x0, x1)"}, "1..9 1..9 1..9")
	runs(t, g, s, api.Less, api.OK, "1..8 2..9 1..9")
	runs(t, g, s, api.Same, api.OK, "1..8 2..9 1..9")
	if e := g.Add(parsed(t, "int_lt(x1, x2)")[0]); e != api.OK || g.Len() != 2 {
		t.Error("Add", e)
	}
	runs(t, g, s, api.Less, api.OK, "1..7 2..8 3..9")
	s.Narrow(1, num(r(5, 6)))
	runs(t, g, s, api.Less, api.OK, "1..5 5..6 6..9")
	s.Narrow(2, num(r(6, 9)))
	runs(t, g, s, api.Same, api.OK, "1..5 5..6 6..9")
	s.Narrow(2, num(r(7, 8)))
	runs(t, g, s, api.Same, api.OK, "1..5 5..6 7..8")
	s.Narrow(0, num(r(5, 5)))
	s.Events()
	runs(t, g, s, api.Less, api.OK, "5 6 7..8")
	if got := fmt.Sprint(s.Events()); got != fmt.Sprint([]store.Event{{Var: 1, Why: store.Fixed}}) {
		t.Error("Events", got)
	}
	g, s = engine(t, nil, "1..9")
	runs(t, g, s, api.Same, api.OK, "1..9")
	g, s = engine(t, []string{"int_eq(1, 2)"}, "1..9")
	if what, e := g.Run(); what != api.Fail || e != api.OK {
		t.Error("Run", what, e)
	}
}

// P14.3: a store that has failed, ahead of Run and by Run; one that is brought back.
func TestRunFails(t *testing.T) {
	g, s := engine(t, []string{"int_lt(x0, x1)"}, "{} 1..9")
	runs(t, g, s, api.Fail, api.OK, "{} 1..9")
	g, s = engine(t, []string{"int_lt(x0, x1)"}, "1..9 1..9 1..9")
	s.Push()
	s.Narrow(2, num(r(12, 12)))
	runs(t, g, s, api.Fail, api.OK, "1..9 1..9 {}")
	s.Pop()
	runs(t, g, s, api.Less, api.OK, "1..8 2..9 1..9")
	s.Push()
	s.Narrow(0, num(r(5, 9)))
	s.Narrow(1, num(r(1, 5)))
	for range 2 {
		if what, e := g.Run(); what != api.Fail || e != api.OK || g.Over() {
			t.Error("Run", what, e)
		}
	}
	s.Pop()
	runs(t, g, s, api.Same, api.OK, "1..8 2..9 1..9")
}

// P14.3: a number that is beyond; Run behind it, whatever became of the store.
func TestRunOver(t *testing.T) {
	g, s := engine(t, []string{"int_pow(10, x0, x1)", "int_lt(x1, x0)"}, "0..99 0..9")
	s.Push()
	s.Narrow(0, num(r(20, 20)))
	if g.Over() {
		t.Error("Over ahead of Run")
	}
	for range 2 {
		if what, e := g.Run(); what != 0 || e != api.ErrOver || !g.Over() || s.Failed() {
			t.Error("Run", what, e, g.Over())
		}
	}
	s.Pop()
	s.Narrow(0, num(r(0, 0)))
	if what, e := g.Run(); what != 0 || e != api.ErrOver || !g.Over() {
		t.Error("Run behind it", what, e)
	}
	s.Narrow(0, num())
	if what, e := g.Run(); what != 0 || e != api.ErrOver || !s.Failed() {
		t.Error("Run behind it, failed", what, e)
	}
	if e := g.Add(parsed(t, "int_lt(x0, x1)")[0]); e != api.OK || g.Len() != 3 {
		t.Error("Add behind it", e)
	}
	s = stored(t, doms(t, "0 1..9"))
	if g, _ := prune.New(parsed(t, "int_pow(10, x0, x1)"), s); g.Over() {
		t.Error("Over of another one")
	} else {
		runs(t, g, s, api.Less, api.OK, "0 1")
	}
}

// P14.7: whatever the store went through behind the last Run, Push and Pop and its events, too.
func TestRunAfterPop(t *testing.T) {
	g, s := engine(t, []string{"int_lt(x0, x1)", "int_lt(x1, x2)"}, "1..9 1..9 1..9")
	s.Push()
	runs(t, g, s, api.Less, api.OK, "1..7 2..8 3..9")
	s.Pop()
	runs(t, g, s, api.Less, api.OK, "1..7 2..8 3..9") // what was pruned at the depth 1 is not so at 0
	s.Narrow(0, num(r(4, 9)))
	s.Events()
	s.Push()
	runs(t, g, s, api.Less, api.OK, "4..7 5..8 6..9")
	s.Narrow(2, num(r(6, 6)))
	runs(t, g, s, api.Less, api.OK, "4 5 6")
	s.Pop()
	if got := told(s.All()); got != "4..7 2..8 3..9" {
		t.Error("Pop", got)
	}
	runs(t, g, s, api.Less, api.OK, "4..7 5..8 6..9")
	s.Push()
	if e := g.Add(parsed(t, "int_ne(x0, 4)")[0]); e != api.OK {
		t.Error("Add", e)
	}
	runs(t, g, s, api.Less, api.OK, "5..7 6..8 7..9")
	s.Pop()
	runs(t, g, s, api.Less, api.OK, "5..7 6..8 7..9") // what was added at the depth 1 is there at 0
}

// P14.3: what is handed in is not kept: constraints that are written into later; the store is used, not copied.
func TestEngineMemory(t *testing.T) {
	l := parsed(t, "int_lt(x0, x1)")
	s := stored(t, doms(t, "1..3 1..3"))
	g, _ := prune.New(l, s)
	more := parsed(t, "fzn_table_int([x0, x1], [1, 2, 1, 3, 7, 8])")[0]
	g.Add(more)
	for _, c := range []api.Con{l[0], more} {
		for _, a := range c.Args {
			for i := range a.L {
				a.L[i] = cons.Int(5)
			}
		}
	}
	l[0] = api.Con{}
	s.Narrow(1, num(r(2, 5)))
	runs(t, g, s, api.Less, api.OK, "1 2..3")
	d := s.All()
	spoil(d)
	if what, e := g.Run(); what != api.Same || e != api.OK || told(s.All()) != "1 2..3" {
		t.Error("Run", what, e, told(s.All()))
	}
}

// walk goes some steps with an engine and its store: constraints and domains that are drawn, Push and Pop.
type walk struct {
	game
	t      *testing.T
	engine *prune.Engine
	store  *store.Store
	cons   []api.Con
	pushed [][]api.Dom
	seen   map[string]int
}

// step does one thing; false, if the engine is over.
func (w *walk) step() bool {
	switch w.IntN(9) {
	case 0, 1:
		w.pushed = append(w.pushed, w.store.All())
		w.store.Push()
	case 2, 3, 4:
		if w.store.Pop() == api.OK {
			last := len(w.pushed) - 1
			if !sameDoms(w.store.All(), w.pushed[last]) {
				w.t.Fatal("Pop", told(w.store.All()), told(w.pushed[last]))
			}
			w.pushed = w.pushed[:last]
		}
	case 5:
		if len(w.cons) == 4 {
			break
		}
		c := w.con()
		w.cons = append(w.cons, c)
		if e := w.engine.Add(c); e != api.OK || w.engine.Len() != len(w.cons) {
			w.t.Fatal("Add", e)
		}
	case 6, 7:
		n := w.IntN(5)
		if d := w.dom(n > 2); !kinds.Empty(d) || w.IntN(5) == 0 {
			w.store.Narrow(n, d)
		}
	case 8:
		w.store.Events()
	}
	return w.run()
}

func (w *walk) run() bool {
	if w.IntN(2) == 0 {
		return true
	}
	before := w.store.All()
	failed := w.store.Failed()
	what, e := w.engine.Run()
	w.seen[fmt.Sprint(what, e)]++
	got := w.store.All()
	if failed && (what != api.Fail || e != api.OK) || w.engine.Over() != (e == api.ErrOver) {
		w.t.Fatal("Run", what, e, w.engine.Over())
	}
	if e != api.OK || what == api.Fail {
		got = nil
	}
	if wrong := checkFixed(w.cons, before, got, what, e); wrong != "" {
		w.t.Fatalf("Run %s; %s: %s, %d, %d: %s", toldCons(w.cons), told(before), told(got), what, e, wrong)
	}
	return e == api.OK
}

// P14.3, P14.4, P14.7: engines on walks, against all assignments.
func TestWalks(t *testing.T) {
	seen := map[string]int{}
	for n := range uint64(400) {
		g := newGame(100 + n)
		whole, all := num(r(0, 4)), set(nil, list(1, 2), 0, 2)
		w := &walk{game: g, t: t, store: stored(t, []api.Dom{whole, whole, whole, all, all}), seen: seen}
		w.cons = g.cons(g.IntN(2))
		w.engine, _ = prune.New(w.cons, w.store)
		for range 40 {
			if !w.step() {
				break
			}
		}
	}
	if len(seen) != 4 {
		t.Error("not all of Same, Less, Fail, ErrOver:", seen)
	}
}
