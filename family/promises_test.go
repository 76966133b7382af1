package family_test

import (
	"fmt"
	"slices"
	"testing"

	"jigsaw/api"
	"jigsaw/cons"
	"jigsaw/family"
	"jigsaw/kinds"
)

// each runs a test for each constraint of each family.
func each(t *testing.T, run func(t *testing.T, f face, name string, g game)) {
	for _, f := range faces() {
		n := uint64(0)
		for name := range names(f) {
			n++
			g := newGame(n)
			t.Run(name, func(t *testing.T) {
				t.Parallel()
				run(t, f, name, g)
			})
		}
		if n == 0 {
			t.Error("no constraints of", f.name)
		}
	}
}

// P7.1, and so of chapters 8 to 13: Holds is what the document says it means, truths that are none, too.
func TestHolds(t *testing.T) {
	each(t, func(t *testing.T, f face, name string, g game) {
		seen := map[answer]int{}
		for range 3000 {
			c := g.con(name)
			v := make([]api.Val, gameVars)
			for n, isSet := range gameKinds() {
				if isSet {
					v[n] = api.Val{Set: true, S: g.anySet()}
				} else if v[n].N = g.Int64N(3); g.IntN(3) == 0 {
					v[n].N = g.anyNumber()
				}
			}
			before := fmt.Sprint(c, v)
			ok, e := f.holds(c, v)
			want := f.means(c, v)
			seen[want]++
			if ok != (want == yes) || (e == api.ErrOver) != (want == beyond) || e != api.OK && e != api.ErrOver {
				t.Fatalf("Holds %s of %v: %v, %d; want %d", cons.Text(c), v, ok, e, want)
			}
			if fmt.Sprint(c, v) != before {
				t.Fatal("Holds changed what was handed in", before)
			}
		}
		if seen[yes] == 0 || seen[no] == 0 || (seen[beyond] > 0) != (name == "int_pow") {
			t.Error("not all answers were asked for:", seen)
		}
	})
}

// world is all that is known of a constraint over domains, by trying all.
type world struct {
	vars  []int
	open  []int       // those of vars that have not just one value
	good  [][]api.Val // of which it holds
	over  bool        // of some it can not be said
	empty bool        // one of vars has no value
	just  bool        // just what is in some assignment may be left
}

// just: does the document promise of a constraint that just what is in some assignment is left? (P11.6, P12.6)
func just(c api.Con) bool {
	switch c.Name {
	case "fzn_all_different_int", "fzn_table_int", "fzn_regular":
		return !family.Twice(c.Args[0].L)
	}
	return false
}

func worldOf(f face, c api.Con, d []api.Dom) world {
	w := world{vars: cons.Vars(c), just: just(c)}
	for _, n := range w.vars {
		size := len(values(d[n]))
		w.empty = w.empty || size == 0
		if size != 1 {
			w.open = append(w.open, n)
		}
	}
	for v := range assignments(d, w.vars) {
		switch f.means(c, v) {
		case yes:
			w.good = append(w.good, v)
		case beyond:
			w.over = true
		}
	}
	return w
}

// wantError is the error that Prune must answer of that world: true, if it must be just that.
func (w world) wantError() (api.Errno, bool) {
	switch {
	case w.empty || !w.over:
		return api.OK, true
	case len(w.open) <= 1:
		return api.ErrOver, true
	}
	return api.ErrOver, false
}

// check holds what Prune answered against all that is known.
func (w world) check(c api.Con, d, got []api.Dom, what int, e api.Errno) string {
	want, must := w.wantError()
	switch {
	case e != api.OK && (e != want || got != nil || what != 0), must && e != want:
		return fmt.Sprint("error ", e)
	case e != api.OK:
		return ""
	case what == api.Fail && len(w.good) > 0:
		return "Fail, and something holds"
	case what == api.Fail && len(got) > 0:
		return "Fail, and domains"
	case what == api.Fail:
		return ""
	case w.empty || len(got) != len(d) || w.just && len(w.good) == 0:
		return "not Fail, or not as many"
	}
	return w.checkDoms(d, got, what)
}

func (w world) checkDoms(d, got []api.Dom, what int) string {
	same := true
	for n := range d {
		if !slices.Contains(w.vars, n) {
			if !sameDom(d[n], got[n]) {
				return fmt.Sprint("another one changed: ", n)
			}
			continue
		}
		if kinds.Empty(got[n]) || !sameDom(got[n], kinds.Both(got[n], got[n])) {
			return fmt.Sprint("empty, or not tight: ", tellDom(got[n]))
		}
		for _, v := range values(got[n]) {
			if !kinds.Has(d[n], v) {
				return fmt.Sprint("more than there was of ", n)
			}
		}
		same = same && len(values(got[n])) == len(values(d[n]))
	}
	if what != map[bool]int{true: api.Same, false: api.Less}[same] {
		return fmt.Sprint("what became of it: ", what)
	}
	for _, v := range w.good {
		for _, n := range w.vars {
			if !kinds.Has(got[n], v[n]) {
				return fmt.Sprint("lost: ", v)
			}
		}
	}
	for _, n := range w.vars {
		if want := w.projection(n); w.just && !sameDom(got[n], want) {
			return fmt.Sprint("not just what can be of ", n, ": ", tellDom(got[n]), " want ", tellDom(want))
		}
	}
	return w.checkLast(got, what)
}

// projection is the smallest domain of a variable that has all with which it holds.
func (w world) projection(n int) api.Dom {
	var out []api.Val
	for _, v := range w.good {
		out = append(out, v[n])
	}
	return hull(out)
}

// checkLast: where all variables have one value, it is decided; where one is left, it has just what holds.
func (w world) checkLast(got []api.Dom, what int) string {
	switch {
	case len(w.open) > 1:
		return ""
	case len(w.good) == 0:
		return "not Fail, and nothing holds"
	case len(w.open) == 0 && what != api.Same:
		return "not Same, and it holds"
	case len(w.open) == 0:
		return ""
	}
	n := w.open[0]
	if want := w.projection(n); !sameDom(got[n], want) {
		return fmt.Sprint("one is left: ", tellDom(got[n]), " want ", tellDom(want))
	}
	return ""
}

// P7.2 to P7.5, and so of chapters 8 to 13, P11.6, P12.6: small constraints over small domains, against all assignments.
func TestPrune(t *testing.T) {
	each(t, func(t *testing.T, f face, name string, g game) {
		seen := map[int]int{}
		for range 2500 {
			c, d := g.con(name), g.doms()
			before := fmt.Sprint(c, d)
			got, what, e := f.prune(c, d)
			if wrong := worldOf(f, c, d).check(c, d, got, what, e); wrong != "" {
				t.Fatalf("Prune %s: %s, %d, %d: %s", told(c, d), fmt.Sprint(got), what, e, wrong)
			}
			if fmt.Sprint(c, d) != before {
				t.Fatal("Prune changed what was handed in", before)
			}
			seen[what]++
		}
		if seen[api.Same] == 0 || seen[api.Less] == 0 || seen[api.Fail] == 0 {
			t.Error("not all of Same, Less, Fail:", seen)
		}
	})
}

// Rules 4 and 5: an answer shares no memory with what was handed in, nor with a later answer, nor do two lists of it.
func TestPruneMemory(t *testing.T) {
	each(t, func(t *testing.T, f face, name string, g game) {
		for range 300 {
			c, d := g.con(name), g.doms()
			kept := copyDoms(d)
			first, what, _ := f.prune(c, d)
			want := copyDoms(first)
			spoil(first)
			if !sameDoms(d, kept) {
				t.Fatal("writing into the answer changed what was handed in:", told(c, kept))
			}
			second, again, _ := f.prune(c, d)
			if again != what || !sameDoms(second, want) {
				t.Fatal("another answer:", told(c, d))
			}
			spoil(d)
			if !sameDoms(second, want) {
				t.Fatal("writing into what was handed in changed the answer:", told(c, kept))
			}
			for n := range second { // what is written into one list is seen in no other one
				rest := copyDoms(second)
				for _, d := range [][]api.Dom{second, rest} {
					if len(d[n].R) > 0 {
						d[n].R[0] = r(-77, -78)
					}
					if len(d[n].Lo) > 0 {
						d[n].Lo[0] = -77
					}
					if len(d[n].Up) > 0 {
						d[n].Up[0] = -78
					}
				}
				if !sameDoms(second, rest) {
					t.Fatal("two lists share memory:", told(c, kept))
				}
			}
		}
	})
}

// renumbered is c with other numbers of variables.
func renumbered(c api.Con, to []int) api.Con {
	out := cons.Copy(c)
	for _, a := range out.Args {
		for i, x := range a.L {
			if x.Var >= 0 {
				a.L[i].Var = to[x.Var]
			}
		}
	}
	return out
}

// P7.7, P8.7, P9.6, P10.6, P11.7, P12.7, P13.7: the numbers of variables play no part; of Prune neither.
func TestRenumbered(t *testing.T) {
	each(t, func(t *testing.T, f face, name string, g game) {
		for range 300 {
			c, d := g.con(name), g.doms()
			to := g.Perm(gameVars + 3)[:gameVars]
			other := make([]api.Dom, gameVars+3)
			for n := range d {
				other[to[n]] = d[n]
			}
			moved := renumbered(c, to)
			for v := range assignments(d, cons.Vars(c)) {
				w := make([]api.Val, gameVars+3)
				for n := range v {
					w[to[n]] = v[n]
				}
				a, ae := f.holds(c, v)
				b, be := f.holds(moved, w)
				if a != b || ae != be {
					t.Fatal("Holds, renumbered", told(c, d), v)
				}
			}
			got, what, e := f.prune(c, d)
			again, whatAgain, eAgain := f.prune(moved, other)
			if what != whatAgain || e != eAgain || len(got) > 0 != (len(again) > 0) {
				t.Fatal("Prune, renumbered", told(c, d))
			}
			for n := range got {
				if !sameDom(got[n], again[to[n]]) {
					t.Fatal("Prune, renumbered", told(c, d), n)
				}
			}
		}
	})
}
