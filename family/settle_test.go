package family_test

import (
	"testing"

	"jigsaw/api"
	"jigsaw/cons"
	"jigsaw/dom"
	"jigsaw/family"
	"jigsaw/sets"
)

// idle is a family that takes nothing away by itself: what is left to all families must be decided by what they have in common.
func idle(name string, test family.Test) family.Rules {
	return family.Rules{
		Name:   name,
		Test:   func(api.Con) family.Test { return test },
		Narrow: func(api.Con, *family.Doms) api.Errno { return api.OK },
	}
}

// P7.5, and so of chapters 8 to 13: a whole number that is left is tried value by value, up to MaxScan of them; one that goes beyond among them is ErrOver.
func TestNumberLeft(t *testing.T) {
	c := api.Con{Name: "int_le", Args: []api.Arg{cons.One(cons.Var(0)), cons.One(cons.Var(1))}}
	odd := idle("linear", func(v []api.Val) (bool, api.Errno) { return v[0].N%2 == 1 && v[1].N == 5, api.OK })
	over := idle("linear", func(v []api.Val) (bool, api.Errno) {
		if v[0].N == 999 {
			return false, api.ErrOver
		}
		return true, api.OK
	})
	for _, last := range []int64{998, 999, 1000} {
		d := []api.Dom{num(r(0, last)), num(r(5, 5))}
		got, what, e := family.Prune(odd, c, d)
		if last == 1000 && (what != api.Same || !sameDoms(got, d)) || last < 1000 && (what != api.Less || len(got[0].R) != int(last+1)/2 || dom.Has(got[0].R, 500)) || e != api.OK {
			t.Error("odd", last, what, e)
		}
		got, what, e = family.Prune(over, c, d)
		if last == 999 && (got != nil || what != 0 || e != api.ErrOver) || last != 999 && (what != api.Same || e != api.OK) {
			t.Error("over", last, what, e)
		}
		if _, what, e = family.Prune(odd, c, []api.Dom{num(r(0, last)), num(r(6, 6))}); last < 1000 && what != api.Fail || e != api.OK {
			t.Error("none", last, what, e)
		}
	}
	two := []api.Dom{num(r(0, 3)), num(r(5, 6))}
	if got, what, e := family.Prune(odd, c, two); what != api.Same || e != api.OK || !sameDoms(got, two) {
		t.Error("two are left", got, what, e)
	}
}

// P8.5, P10.5: a set that is left is tried set by set; its domain becomes the smallest one that has all that hold.
func TestSetLeft(t *testing.T) {
	c := api.Con{Name: "set_subset", Args: []api.Arg{cons.One(cons.Var(0)), cons.One(cons.Var(1))}}
	one := set(list(7), list(7), 1, 1)
	nine := list(1, 2, 3, 4, 5, 6, 7, 8, 9)
	for _, s := range []struct {
		d     api.Dom
		holds func(l []int64) bool
		want  api.Dom
	}{
		{set(nil, nine, 0, 9), func(l []int64) bool { return len(l) == 2 && l[0] == 3 }, set(list(3), list(3, 4, 5, 6, 7, 8, 9), 2, 2)},
		{set(nil, nine, 0, 9), func(l []int64) bool { return sets.Text(l) == "{2}" || sets.Text(l) == "{3,9}" }, set(nil, list(2, 3, 9), 1, 2)},
		{set(nil, nine, 0, 9), func(l []int64) bool { return len(l) == 0 }, set(nil, nil, 0, 0)},
		{set(nil, nine, 0, 9), func(l []int64) bool { return false }, set(nil, nil, 1, 0)},
		{set(list(2), list(1, 2, 3), 2, 2), func(l []int64) bool { return true }, set(list(2), list(1, 2, 3), 2, 2)},
		{set(nil, append(nine, 10), 0, 10), func(l []int64) bool { return false }, set(nil, append(nine, 10), 0, 10)}, // 1024 sets: not tried
	} {
		rules := idle("setcon", func(v []api.Val) (bool, api.Errno) { return v[0].Set && s.holds(v[0].S) && v[1].S[0] == 7, api.OK })
		got, what, e := family.Prune(rules, c, []api.Dom{s.d, one})
		if s.want.Least > s.want.Most {
			if len(got) > 0 || what != api.Fail || e != api.OK {
				t.Error("none holds", got, what, e)
			}
			continue
		}
		if e != api.OK || what == api.Fail || (what == api.Same) != sets.Same(s.d, s.want) || !sameDom(got[0], s.want) {
			t.Error("Prune", s.d, got, what, e)
		}
	}
	over := idle("setcon", func(v []api.Val) (bool, api.Errno) { return true, api.ErrOver })
	if got, what, e := family.Prune(over, c, []api.Dom{set(nil, nine, 0, 9), one}); got != nil || what != 0 || e != api.ErrOver {
		t.Error("Prune", got, what, e)
	}
}

// P8.2, P10.2: sets' domains of the constraint's variables are made tight, those of others stay as they are; that is no change.
func TestTight(t *testing.T) {
	c := api.Con{Name: "set_subset", Args: []api.Arg{cons.One(cons.Var(0)), cons.One(cons.Var(1))}}
	rules := idle("setcon", func(v []api.Val) (bool, api.Errno) { return true, api.OK })
	loose := set(list(1), list(1, 2), 2, 2)
	free := set(nil, list(1, 2), 0, 2)
	got, what, e := family.Prune(rules, c, []api.Dom{loose, free, loose})
	if what != api.Same || e != api.OK || !sameDoms(got, []api.Dom{set(list(1, 2), list(1, 2), 2, 2), free, loose}) {
		t.Error("Prune", got, what, e)
	}
	got, what, e = family.Prune(rules, api.Con{Name: "set_card", Args: []api.Arg{cons.One(cons.Var(0)), cons.One(cons.Int(2))}}, []api.Dom{loose})
	if what != api.Same || e != api.OK || !sameDoms(got, []api.Dom{set(list(1, 2), list(1, 2), 2, 2)}) {
		t.Error("Prune", got, what, e)
	}
}
