package family_test

import (
	"testing"

	"jigsaw/api"
	"jigsaw/cons"
	"jigsaw/family"
)

// positive says that a term is above 0; the least that a family can give a truth to hang on.
type positive struct{ t api.Term }

func (p positive) Holds(v []api.Val) (bool, api.Errno) {
	x, e := cons.Of(p.t, v)
	return x.N > 0, e
}

func (p positive) Enforce(d *family.Doms, so bool) {
	if so {
		d.Cut(p.t, 1, maxBig)
	} else {
		d.Cut(p.t, -maxBig, 0)
	}
}

// positives is a family all of whose constraints say that their first term is above 0, with a truth by the ending of the name.
func positives() family.Rules {
	read := func(c api.Con) family.Hung {
		return family.Hang(c, func(rest api.Con) family.Relation { return positive{rest.Args[0].L[0]} })
	}
	return family.Rules{
		Name:   "linear",
		Test:   func(c api.Con) family.Test { return read(c).Holds },
		Narrow: func(c api.Con, d *family.Doms) api.Errno { read(c).Narrow(d); return api.OK },
	}
}

// A truth that hangs on the rest: known, it asks for the rest or its opposite; not known, it becomes so by what the rest can be.
func TestHang(t *testing.T) {
	neg, pos, any := num(r(-5, 0)), num(r(1, 5)), num(r(-5, 5))
	zero, one, truth := num(r(0, 0)), num(r(1, 1)), num(r(0, 1))
	for _, s := range []struct {
		text       string
		x, b       api.Dom
		wantX, own api.Dom
		what       int
	}{
		{"int_le(x0, 0)", any, truth, pos, truth, api.Less},
		{"int_le(x0, 0)", neg, truth, neg, truth, api.Fail},
		{"int_le_reif(x0, 0, x1)", any, truth, any, truth, api.Same},
		{"int_le_reif(x0, 0, x1)", any, one, pos, one, api.Less},
		{"int_le_reif(x0, 0, x1)", any, zero, neg, zero, api.Less},
		{"int_le_reif(x0, 0, x1)", pos, truth, pos, one, api.Less},
		{"int_le_reif(x0, 0, x1)", neg, truth, neg, zero, api.Less},
		{"int_le_reif(x0, 0, x1)", pos, zero, pos, zero, api.Fail},
		{"int_le_reif(x0, 0, x1)", neg, one, neg, one, api.Fail},
		{"int_le_imp(x0, 0, x1)", any, truth, any, truth, api.Same},
		{"int_le_imp(x0, 0, x1)", any, one, pos, one, api.Less},
		{"int_le_imp(x0, 0, x1)", any, zero, any, zero, api.Same},
		{"int_le_imp(x0, 0, x1)", pos, truth, pos, truth, api.Same},
		{"int_le_imp(x0, 0, x1)", neg, truth, neg, zero, api.Less},
		{"int_le_imp(x0, 0, x1)", pos, zero, pos, zero, api.Same},
		{"int_le_imp(x0, 0, x1)", neg, one, neg, one, api.Fail},
		{"int_le_reif(x1, 0, x1)", any, truth, any, truth, api.Same},
	} {
		got, what, e := family.Prune(positives(), parsed(t, s.text), []api.Dom{s.x, s.b})
		if what != s.what || e != api.OK || what != api.Fail && !sameDoms(got, []api.Dom{s.wantX, s.own}) {
			t.Error(s.text, tellDom(s.x), tellDom(s.b), got, what, e)
		}
	}
	for text, want := range map[string][4]bool{ // of x0, x1: 0 0, 0 1, 1 0, 1 1
		"int_le(x0, 0)": {false, false, true, true}, "int_le_reif(x0, 0, x1)": {true, false, false, true}, "int_le_imp(x0, 0, x1)": {true, false, true, true},
	} {
		for i, w := range want {
			if ok, e := family.Holds(positives(), parsed(t, text), []api.Val{{N: int64(i / 2)}, {N: int64(i % 2)}}); ok != w || e != api.OK {
				t.Error(text, i, ok, e)
			}
		}
	}
}
