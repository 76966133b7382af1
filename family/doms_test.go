package family_test

import (
	"slices"
	"testing"

	"jigsaw/api"
	"jigsaw/cons"
	"jigsaw/dom"
	"jigsaw/family"
)

// anyway is a constraint of which all holds; what it takes away is handed in.
type anyway struct{ takes func(d *family.Doms) }

func (anyway) Holds([]api.Val) bool    { return true }
func (a anyway) Narrow(d *family.Doms) { a.takes(d) }

// worked is what becomes of domains by work on them, as text; fail, if nothing is left.
func worked(t *testing.T, from []api.Dom, takes func(d *family.Doms)) string {
	t.Helper()
	var l []api.Term
	for n := range from {
		l = append(l, cons.Var(n))
	}
	c := api.Con{Name: "fzn_all_equal_int", Args: []api.Arg{cons.List(l...)}}
	got, what, e := family.Prune(family.PlainRules("count", func(api.Con) family.Plain { return anyway{takes} }), c, from)
	if e != api.OK {
		t.Fatal("Prune", e)
	}
	if what == api.Fail {
		return "fail"
	}
	text := ""
	for _, d := range got {
		text += " " + dom.Text(d.R)
	}
	return text[1:]
}

// What is taken from domains, of variables and of constants.
func TestDomsWork(t *testing.T) {
	x, y, z := cons.Var(0), cons.Var(1), cons.Var(2)
	from := []api.Dom{num(r(1, 9)), num(r(3, 5), r(8, 12)), num(r(4, 4))}
	for _, s := range []struct {
		takes func(d *family.Doms)
		want  string
	}{
		{func(d *family.Doms) { d.KeepCommon(nil) }, "1..9 3..5,8..12 4"},
		{func(d *family.Doms) { d.KeepCommon([]api.Term{x}) }, "1..9 3..5,8..12 4"},
		{func(d *family.Doms) { d.KeepCommon([]api.Term{x, y, x}) }, "3..5,8..9 3..5,8..9 4"},
		{func(d *family.Doms) { d.KeepCommon([]api.Term{x, cons.Int(8), y}) }, "8 8 4"},
		{func(d *family.Doms) { d.KeepCommon([]api.Term{x, cons.Int(7), y}) }, "fail"},
		{func(d *family.Doms) { d.KeepCommon([]api.Term{x, y, z}) }, "4 4 4"},
		{func(d *family.Doms) { d.KeepSome(x, []api.Term{y, cons.Int(1)}) }, "1,3..5,8..9 3..5,8..12 4"},
		{func(d *family.Doms) { d.KeepSome(y, []api.Term{x}) }, "1..9 3..5,8..9 4"},
		{func(d *family.Doms) { d.KeepSome(y, []api.Term{y, x}) }, "1..9 3..5,8..12 4"},
		{func(d *family.Doms) { d.KeepSome(x, nil) }, "fail"},
		{func(d *family.Doms) { d.KeepSome(cons.Int(4), []api.Term{z}) }, "1..9 3..5,8..12 4"},
		{func(d *family.Doms) { d.KeepSome(cons.Int(5), []api.Term{z}) }, "fail"},
		{func(d *family.Doms) { d.Leave(x, nil) }, "1..9 3..5,8..12 4"},
		{func(d *family.Doms) { d.Leave(x, list(1, 3, 4, 12)) }, "2,5..9 3..5,8..12 4"},
		{func(d *family.Doms) { d.Leave(x, list(3, maxBig+1)) }, "1..9 3..5,8..12 4"},
		{func(d *family.Doms) { d.Leave(z, list(3, 4)) }, "fail"},
		{func(d *family.Doms) { d.Leave(cons.Int(4), list(3)) }, "1..9 3..5,8..12 4"},
		{func(d *family.Doms) { d.Leave(cons.Int(4), list(3, 4)) }, "fail"},
		{func(d *family.Doms) { d.LeaveRanges(x, nil) }, "1..9 3..5,8..12 4"},
		{func(d *family.Doms) { d.LeaveRanges(x, []api.Range{r(6, 7), r(3, 4), r(4, 4), r(9, 2)}) }, "1..2,5,8..9 3..5,8..12 4"},
		{func(d *family.Doms) { d.LeaveRanges(y, []api.Range{r(5, 9), r(-3*maxBig, 3), r(12, 3*maxBig)}) }, "1..9 4,10..11 4"},
		{func(d *family.Doms) { d.LeaveRanges(y, []api.Range{r(-3*maxBig, -2*maxBig), r(2*maxBig, 3*maxBig)}) }, "1..9 3..5,8..12 4"},
		{func(d *family.Doms) { d.LeaveRanges(y, []api.Range{r(3, 6), r(8, 12)}) }, "fail"},
		{func(d *family.Doms) { d.LeaveRanges(cons.Int(4), []api.Range{r(5, 6)}) }, "1..9 3..5,8..12 4"},
		{func(d *family.Doms) { d.LeaveRanges(cons.Int(4), []api.Range{r(3, 6)}) }, "fail"},
	} {
		if got := worked(t, from, s.takes); got != s.want {
			t.Error(got, "want", s.want)
		}
	}
}

// What is asked of domains.
func TestDomsAsked(t *testing.T) {
	from := []api.Dom{num(r(1, 2), r(5, 5)), num(r(4, 4))}
	worked(t, from, func(d *family.Doms) {
		if n, ok := d.Fixed(cons.Var(1)); n != 4 || !ok {
			t.Error("Fixed", n, ok)
		}
		if n, ok := d.Fixed(cons.Int(-3)); n != -3 || !ok {
			t.Error("Fixed", n, ok)
		}
		if _, ok := d.Fixed(cons.Var(0)); ok {
			t.Error("Fixed of several")
		}
		for n := int64(-1); n < 7; n++ {
			if d.Can(cons.Var(0), n) != (n == 1 || n == 2 || n == 5) || d.Can(cons.Int(3), n) != (n == 3) {
				t.Error("Can", n)
			}
		}
		if d.Can(cons.Var(0), maxBig+1) {
			t.Error("Can of what is beyond")
		}
	})
}

// As many values go as ranges have room for: those at a range's end always, others while it can be parted.
func TestLeaveFull(t *testing.T) {
	var full []api.Range
	for i := range int64(api.MaxRanges) {
		full = append(full, r(3*i, 3*i+1))
	}
	full[1].Hi++ // so that there is one between its ends
	full[2] = r(7, 7)
	full[3] = r(9, 12)
	full = slices.Delete(full, 4, 5)
	for _, s := range []struct{ values, want []int64 }{
		{list(4), list(4)}, {list(4, 10), list(4)}, {list(4, 10, 7), list(4, 7, 10)}, {list(0, 4, 5, 10, 12), list(0, 4, 5, 10, 12)}, {list(10, 11), list(10, 11)}, {list(1, 2, 13), list(1)},
	} {
		worked(t, []api.Dom{num(full...)}, func(d *family.Doms) {
			d.Leave(cons.Var(0), s.values)
			gone, _ := dom.Less(full, d.Get(cons.Var(0)).R)
			if want, _ := dom.Of(s.want...); !dom.Same(gone, want) {
				t.Error("Leave", s.values, "took", dom.Text(gone))
			}
		})
	}
}

// Where there is no room for what is left of all ranges, what is below and above it goes.
func TestLeaveRangesFull(t *testing.T) {
	var full []api.Range
	for i := range int64(api.MaxRanges) {
		full = append(full, r(4*i, 4*i+2))
	}
	last := full[len(full)-1].Hi
	for _, s := range []struct {
		ranges []api.Range
		lo, hi int64
		fits   bool
	}{
		{[]api.Range{r(5, 5)}, 0, last, false}, {[]api.Range{r(5, 5), r(-5, 1)}, 2, last, false}, {[]api.Range{r(5, 5), r(last-1, last+1)}, 0, last - 2, false}, {[]api.Range{r(9, 9), r(17, 17), r(2, 4), r(last, last), r(-3, 1)}, 5, last - 1, false}, {[]api.Range{r(0, 6), r(9, 9)}, 8, last, true}, {[]api.Range{r(0, 0), r(13, 13), r(17, 17), r(last-5, last)}, 1, last - 6, false},
	} {
		worked(t, []api.Dom{num(full...)}, func(d *family.Doms) {
			d.LeaveRanges(cons.Var(0), s.ranges)
			lo, hi := d.Bounds(cons.Var(0))
			gone, _ := dom.Norm(s.ranges)
			if left := dom.Both(d.Get(cons.Var(0)).R, gone); lo != s.lo || hi != s.hi || s.fits != (len(left) == 0) {
				t.Error("LeaveRanges", s.ranges, lo, hi, dom.Text(left))
			}
		})
	}
	worked(t, []api.Dom{num(full...)}, func(d *family.Doms) {
		d.LeaveRanges(cons.Var(0), full)
		if lo, hi := d.Bounds(cons.Var(0)); lo != 0 || hi != last {
			t.Error("what fails must stay", lo, hi)
		}
	})
}

// Values of terms, and a variable that stands twice.
func TestTerms(t *testing.T) {
	v := []api.Val{{N: 5}, {N: -2}}
	l := []api.Term{cons.Var(1), cons.Int(7), cons.Var(0), cons.Int(7)}
	if got := family.Numbers(l, v); !slices.Equal(got, list(-2, 7, 5, 7)) || family.Number(l[2], v) != 5 || len(family.Numbers(nil, v)) > 0 {
		t.Error("Numbers", got)
	}
	if family.Twice(l) || family.Twice(nil) || !family.Twice(append(l, cons.Var(1))) || !family.Twice([]api.Term{cons.Var(0), cons.Var(0)}) {
		t.Error("Twice")
	}
}
