package branch_test

import (
	"math"
	"math/rand/v2"
	"slices"
	"testing"

	"jigsaw/api"
	"jigsaw/branch"
	"jigsaw/dom"
	"jigsaw/kinds"
	"jigsaw/sets"
)

// P19.1: each number by how many there may be, and 0 at the end.
func TestDraws(t *testing.T) {
	d := branch.NewDraws([]int{-1, 7, 12, math.MinInt, math.MaxInt, -10, 5})
	alike(t, "Left", d.Left(), 7)
	for _, most := range []int64{0, -1, least} {
		alike(t, "Next of none", d.Next(most), 0)
	}
	alike(t, "Left, nothing drawn", d.Left(), 7)
	for i, c := range []struct{ most, want int64 }{{5, 4}, {5, 2}, {1, 0}, {greatest, greatest - 1}, {10, 7}, {5, 0}, {6, 5}, {6, 0}, {greatest, 0}} {
		alike(t, "Next", d.Next(c.most), c.want)
		alike(t, "Left", d.Left(), max(0, 6-i))
	}
}

// P19.1: of a nil object, the zero one, and none.
func TestNoDraws(t *testing.T) {
	for _, d := range []*branch.Draws{nil, {}, branch.NewDraws(nil), branch.NewDraws([]int{})} {
		alike(t, "Next", d.Next(7), 0)
		alike(t, "Next", d.Next(-7), 0)
		alike(t, "Left", d.Left(), 0)
	}
}

// Rule 5: the list is not kept, however long it is.
func TestDrawsOfTheirOwn(t *testing.T) {
	l := make([]int, 2*api.MaxDraws)
	for i := range l {
		l[i] = i
	}
	a, b := branch.NewDraws(l), branch.NewDraws(l)
	clear(l)
	for i := range l {
		alike(t, "Next", a.Next(greatest), int64(i))
		alike(t, "Left", a.Left(), len(l)-i-1)
	}
	alike(t, "Left of another one", b.Left(), len(l))
}

// P19.3: the other one.
func TestNot(t *testing.T) {
	for op, want := range []int{branch.Ne, branch.Eq, branch.Gt, branch.Le, branch.Out, branch.In} {
		alike(t, "Not", branch.Not(dec(3, op, -8)), dec(3, want, -8))
	}
	for _, op := range []int{-1, -2, 6, 7, math.MinInt, math.MaxInt} {
		alike(t, "Not of none", branch.Not(dec(3, op, -8)), dec(3, op, -8))
	}
}

// P19.3: as text.
func TestText(t *testing.T) {
	for op, want := range []string{"x1 = 3", "x1 != 3", "x1 <= 3", "x1 > 3", "x1 has 3", "x1 lacks 3"} {
		alike(t, "Text", branch.Text(dec(1, op, 3)), want)
	}
	alike(t, "Text", branch.Text(dec(0, branch.Gt, least)), "x0 > -9223372036854775808")
	alike(t, "Text", branch.Text(dec(-1, branch.Eq, 0)), "x-1 = 0")
	for _, op := range []int{-1, 6, math.MinInt, math.MaxInt} {
		alike(t, "Text of none", branch.Text(dec(1, op, 3)), "")
	}
}

// P19.3: does it hold of a value?
func TestHolds(t *testing.T) {
	for _, n := range []int64{least, -3, 0, 2, greatest} {
		for _, v := range []int64{least, -4, -3, 0, 1, 2, 3, greatest} {
			x := api.Val{N: v}
			for op, want := range []bool{v == n, v != n, v <= n, v > n, false, false} {
				alike(t, branch.Text(dec(0, op, n)), branch.Holds(dec(9, op, n), x), want)
			}
		}
		for _, l := range [][]int64{nil, {}, {0}, {-3, 2}, {-3, 0, 2}} {
			x := api.Val{Set: true, S: l}
			for op, want := range []bool{false, false, false, false, slices.Contains(l, n), !slices.Contains(l, n)} {
				alike(t, branch.Text(dec(0, op, n)), branch.Holds(dec(-9, op, n), x), want)
			}
		}
	}
	for _, op := range []int{-1, 6, math.MinInt, math.MaxInt} {
		if branch.Holds(dec(0, op, 0), api.Val{}) || branch.Holds(dec(0, op, 0), api.Val{Set: true}) {
			t.Error("Holds of none", op)
		}
	}
}

// P19.3: what is refused, a domain that can not be first.
func TestApplyRefused(t *testing.T) {
	for op := -2; op < 9; op++ {
		for _, w := range wrongDoms() {
			d, e := branch.Apply(w, dec(0, op, 1))
			if e != api.ErrDom || !sameDom(d, api.Dom{}) {
				t.Error("Apply to what can not be", op, d, e)
			}
		}
		for _, d := range []api.Dom{num(), num(r(1, 2)), noSet(), set(nil, list(1, 2), 0, 2)} {
			got, e := branch.Apply(d, dec(0, op, 1))
			right := !d.Set && op >= 0 && op < 4 || d.Set && (op == 4 || op == 5)
			if right != (e == api.OK) || !right && (e != api.ErrArg || !sameDom(got, api.Dom{})) {
				t.Error("Apply", d, op, got, e)
			}
		}
	}
}

// parts asks of a domain and a decision of its kind: the values of both sides are those of which they hold, and are all, and none twice.
func parts(t *testing.T, d api.Dom, x branch.Dec) {
	t.Helper()
	var yes, no []api.Val
	for _, v := range values(d) {
		if branch.Holds(x, v) == branch.Holds(branch.Not(x), v) {
			t.Error("both or none hold", branch.Text(x), v)
		}
		if branch.Holds(x, v) {
			yes = append(yes, v)
		} else {
			no = append(no, v)
		}
	}
	a, e := branch.Apply(d, x)
	b, f := branch.Apply(d, branch.Not(x))
	if e != api.OK || f != api.OK || !kinds.Right(a) || !kinds.Right(b) || a.Set != d.Set || b.Set != d.Set {
		t.Fatal("Apply", d, branch.Text(x), a, e, b, f)
	}
	alike(t, "Apply "+branch.Text(x), told(values(a)), told(yes))
	alike(t, "Apply "+branch.Text(branch.Not(x)), told(values(b)), told(no))
}

// P19.3, P19.4: they part.
func TestApplyParts(t *testing.T) {
	numbers := list(least, least+1, -maxBig-1, -maxBig, -8, -7, -4, -1, 0, 1, 2, 3, 4, 6, 7, maxBig-1, maxBig, maxBig+1, greatest-1, greatest)
	rnd := rand.New(rand.NewPCG(19, 4))
	all := []api.Dom{num(), noSet(), num(r(-maxBig, -maxBig+2), r(maxBig-2, maxBig)), set(list(-maxBig), list(-maxBig, 0, maxBig), 1, 2), set(nil, list(1, 2), 2, 2), set(nil, nil, 0, 0)}
	for len(all) < 300 {
		if d := drawnDom(rnd); kinds.Right(d) {
			all = append(all, d)
		}
	}
	for _, d := range all {
		kept := kinds.Copy(d)
		for _, n := range numbers {
			if d.Set {
				parts(t, d, dec(0, branch.In, n))
				continue
			}
			parts(t, d, dec(0, branch.Eq, n))
			parts(t, d, dec(0, branch.Le, n))
		}
		if !sameDom(d, kept) {
			t.Fatal("what was handed in is changed", d, kept)
		}
	}
}

// P19.3: where a value that goes would make too many ranges, dom.Without lets it stay; at the ends it goes.
func TestApplyAtTheLimit(t *testing.T) {
	d := comb(api.MaxRanges)
	for _, c := range []struct{ n, size int64 }{{1, 3 * api.MaxRanges}, {0, 3*api.MaxRanges - 1}, {2, 3*api.MaxRanges - 1}, {3, 3 * api.MaxRanges}} {
		got, e := branch.Apply(d, dec(0, branch.Ne, c.n))
		if e != api.OK || dom.Size(got.R) != c.size || !dom.Right(got.R) {
			t.Error("Apply", c.n, dom.Size(got.R), e)
		}
	}
	parts(t, comb(api.MaxRanges-1), dec(0, branch.Eq, 1))
}

// Rule 4: what is answered is new memory.
func TestApplyAnswersAnew(t *testing.T) {
	for _, d := range []api.Dom{num(r(1, 2), r(4, 9)), set(list(1), list(1, 2, 3), 1, 3)} {
		kept := kinds.Copy(d)
		for op := range 6 {
			for _, n := range list(0, 1, 2, 5, 99) {
				want, _ := branch.Apply(d, dec(0, op, n))
				got, _ := branch.Apply(d, dec(0, op, n))
				for i := range got.R {
					got.R[i] = r(77, 78)
				}
				for _, l := range [][]int64{got.Lo, got.Up} {
					for i := range l {
						l[i] = 79
					}
					_ = append(l, 80)
				}
				again, _ := branch.Apply(d, dec(0, op, n))
				if !sameDom(d, kept) || !sameDom(again, want) {
					t.Fatal("shared memory", op, n)
				}
			}
		}
	}
}

// P1: whatever is handed in, each call answers.
func TestAnything(t *testing.T) {
	rnd := rand.New(rand.NewPCG(19, 1))
	numbers := list(least, -maxBig-1, -1, 0, 1, 2, maxBig, greatest)
	n := func() int64 { return numbers[rnd.IntN(len(numbers))] }
	some := func() []int64 { return []int64{n(), n(), n()}[:rnd.IntN(4)] }
	for range 20000 {
		var d []api.Dom
		for range rnd.IntN(4) {
			d = append(d, api.Dom{Set: rnd.IntN(2) == 0, R: []api.Range{r(n(), n()), r(n(), n())}[:rnd.IntN(3)], Lo: some(), Up: some(), Least: int(n()), Most: int(n())})
		}
		d = append(d, drawnDoms(rnd)...)
		var l []api.Phase
		for range rnd.IntN(3) {
			l = append(l, api.Phase{Vars: []int{int(n()), int(n()), rnd.IntN(5)}, Select: int(n()), Value: int(n())})
		}
		x, ok := branch.Choose(l, d, branch.NewDraws([]int{int(n()), int(n())}))
		if ok != (len(slices.Collect(branch.Open(d))) > 0) || !ok && x != (branch.Dec{}) {
			t.Fatal("Choose", d, x, ok)
		}
		y := dec(int(n()), rnd.IntN(8)-1, n())
		for _, a := range d {
			if got, e := branch.Apply(a, y); e == api.OK && !kinds.Right(got) || e != api.OK && !sameDom(got, api.Dom{}) {
				t.Fatal("Apply", a, y, got, e)
			}
		}
		v := api.Val{Set: rnd.IntN(2) == 0, N: n(), S: some()}
		if branch.Holds(y, v) && branch.Holds(branch.Not(y), v) {
			t.Fatal("Holds", y, v)
		}
		if v.Set && branch.Holds(dec(0, branch.In, 1), v) != sets.In(1, v.S) {
			t.Fatal("Holds", v)
		}
	}
}
