package sets_test

import (
	"math"
	"math/big"
	"slices"
	"testing"

	"jigsaw/api"
	"jigsaw/sets"
)

// tried is a small domain and its sets, in their order, found one by one.
type tried struct {
	d   api.Dom
	all [][]int64
}

// smallDoms is all domains that can be of elements of whole, tight or not.
func smallDoms(whole []int64) []tried {
	sorted := parts(whole)
	slices.SortFunc(sorted, slices.Compare)
	out := []tried{{none(), nil}}
	for _, up := range parts(whole) {
		for _, lo := range parts(up) {
			for least := len(lo); least <= len(up); least++ {
				for most := least; most <= len(up); most++ {
					d := tried{d: dom(lo, up, least, most)}
					for _, l := range sorted {
						if has(l, lo, up, least, most) {
							d.all = append(d.all, l)
						}
					}
					out = append(out, d)
				}
			}
		}
	}
	return out
}

// pick is those sets of all for which keep holds.
func pick(all [][]int64, keep func(l []int64) bool) [][]int64 {
	var out [][]int64
	for _, l := range all {
		if keep(l) {
			out = append(out, l)
		}
	}
	return out
}

func sameSets(a, b [][]int64) bool { return slices.EqualFunc(a, b, slices.Equal) }

// P4.2: which domains can be.
func TestRight(t *testing.T) {
	for _, d := range smallDoms(list(-maxBig, 0, 5, maxBig)) {
		if !sets.Right(d.d) {
			t.Error("right, but told not to be", d.d)
		}
	}
	for _, d := range []api.Dom{dom(nil, nil, 0, 0), dom(run(64, 0), run(64, 0), 64, 64), dom(nil, run(64, 0), 0, 64), {Set: true, R: []api.Range{}, Lo: []int64{}, Up: []int64{}, Least: 1}} {
		if !sets.Right(d) {
			t.Error("right, but told not to be", d)
		}
	}
	for _, d := range wrongDoms() {
		if sets.Right(d) {
			t.Error("can not be, but told to", d)
		}
	}
}

// P4.2: made tight, of small bounds and any sizes.
func TestOf(t *testing.T) {
	whole := list(-7, 0, 1, maxBig)
	sizes := []int{math.MinInt, -1, 0, 1, 2, 3, 4, 5, math.MaxInt}
	for _, up := range parts(whole) {
		for _, lo := range parts(whole) {
			for _, least := range sizes {
				for _, most := range sizes {
					d, e := sets.Of(lo, up, least, most)
					if !has(lo, nil, up, 0, 9) || least < 0 {
						alikeDom(t, "Of what is wrong", d, api.Dom{})
						if e != api.ErrDom {
							t.Error("Of", lo, up, least, most, e)
						}
						continue
					}
					want := smallest(pick(parts(whole), func(l []int64) bool { return has(l, lo, up, least, most) }))
					alikeDom(t, "Of", d, want)
					if e != api.OK || !sets.Right(d) {
						t.Error("Of", lo, up, least, most, e)
					}
				}
			}
		}
	}
}

// P4.2: Of of what is no set, and of the greatest ones.
func TestOfEdges(t *testing.T) {
	for _, w := range wrongs() {
		for _, d := range []struct{ lo, up []int64 }{{w, run(64, 0)}, {nil, w}, {w, w}} {
			got, e := sets.Of(d.lo, d.up, 0, 9)
			alikeDom(t, "Of what is no set", got, api.Dom{})
			if e != api.ErrDom {
				t.Error("Of what is no set", d.lo, d.up, e)
			}
		}
	}
	all := run(64, -64)
	d, e := sets.Of(nil, all, 64, 64)
	alikeDom(t, "all are needed", d, dom(all, all, 64, 64))
	d, _ = sets.Of(nil, all, 65, math.MaxInt)
	alikeDom(t, "more are needed than there are", d, none())
	d, _ = sets.Of(nil, all, 0, 0)
	alikeDom(t, "none may be there", d, dom(nil, nil, 0, 0))
	d, _ = sets.Of(all[:1], all[:3], 0, 2)
	alikeDom(t, "example 1", d, dom(all[:1], all[:3], 1, 2))
	if e != api.OK {
		t.Error("Of", e)
	}
}

// P4.2, P4.5: all small domains, tight or not.
func TestAsk(t *testing.T) {
	whole := list(-maxBig, 0, 3, maxBig)
	for _, c := range smallDoms(whole) {
		if got := collect(c.d); !sameSets(got, c.all) {
			t.Error("Each", c.d, got, c.all)
		}
		if sets.Count(c.d) != int64(len(c.all)) || sets.Empty(c.d) != (len(c.all) == 0) {
			t.Error("Count, Empty", c.d, sets.Count(c.d))
		}
		for _, l := range append(parts(whole), list(7), list(0, 7)) {
			if sets.Has(c.d, l) != slices.ContainsFunc(c.all, func(x []int64) bool { return slices.Equal(x, l) }) {
				t.Error("Has", c.d, l)
			}
		}
		l, ok := sets.Fixed(c.d)
		if ok != (len(c.all) == 1) || ok && !slices.Equal(l, c.all[0]) || !ok && l != nil {
			t.Error("Fixed", c.d, l, ok)
		}
	}
}

// P4.3, P4.4: the sets of a domain with a value, without it, with so many elements.
func TestSmaller(t *testing.T) {
	whole := list(-maxBig, 0, 3, maxBig)
	for _, c := range smallDoms(whole) {
		for _, v := range append(slices.Clone(whole), 7, least, greatest, maxBig+1) {
			with := pick(c.all, func(l []int64) bool { return slices.Contains(l, v) })
			without := pick(c.all, func(l []int64) bool { return !slices.Contains(l, v) })
			must, not := sets.Must(c.d, v), sets.Not(c.d, v)
			alikeDom(t, "Must", must, smallest(with))
			alikeDom(t, "Not", not, smallest(without))
			for _, l := range c.all {
				if sets.Has(must, l) == sets.Has(not, l) {
					t.Error("Must and Not do not part", c.d, v, l)
				}
			}
		}
		for _, from := range []int{math.MinInt, -1, 0, 1, 2, 3, 4, 5, math.MaxInt} {
			for _, to := range []int{math.MinInt, -1, 0, 1, 2, 3, 4, 5, math.MaxInt} {
				want := smallest(pick(c.all, func(l []int64) bool { return from <= len(l) && len(l) <= to }))
				alikeDom(t, "Card", sets.Card(c.d, from, to), want)
			}
		}
	}
}

// P4.3: all pairs of small domains, tight or not.
func TestBothAndSame(t *testing.T) {
	all := smallDoms(list(-1, 0, 9))
	for _, a := range all {
		for _, b := range all {
			want := pick(a.all, func(l []int64) bool {
				return slices.ContainsFunc(b.all, func(x []int64) bool { return slices.Equal(x, l) })
			})
			alikeDom(t, "Both", sets.Both(a.d, b.d), smallest(want))
			if sets.Same(a.d, b.d) != sameSets(a.all, b.all) {
				t.Error("Same", a.d, b.d)
			}
		}
	}
}

// P4.3: lower bounds that are together too many for a set.
func TestBothOfMany(t *testing.T) {
	a, b := run(64, 0), run(64, 100)
	alikeDom(t, "Both", sets.Both(dom(a, a, 64, 64), dom(b, b, 64, 64)), none())
	alikeDom(t, "Both of the same", sets.Both(dom(a, a, 64, 64), dom(nil, a, 0, 64)), dom(a, a, 64, 64))
	alikeDom(t, "Both of what overlaps", sets.Both(dom(a[:32], a, 32, 64), dom(a[32:], a, 32, 64)), dom(a, a, 64, 64))
	alikeDom(t, "Both, but too few", sets.Both(dom(a[:32], a, 32, 63), dom(a[32:], a, 32, 64)), none())
}

// P4.2: how many, up to 2^62 and beyond.
func TestCountOfMany(t *testing.T) {
	limit := new(big.Int).Lsh(big.NewInt(1), 62)
	up := run(64, -10)
	for _, n := range []int{0, 1, 2, 30, 60, 61, 62, 63, 64} {
		for least := 0; least <= n; least += 1 + n/7 {
			for most := least; most <= n; most++ {
				want := new(big.Int)
				for k := least; k <= most; k++ {
					want.Add(want, new(big.Int).Binomial(int64(n), int64(k)))
				}
				if want.Cmp(limit) > 0 {
					want = limit
				}
				if got := sets.Count(dom(nil, up[:n], least, most)); got != want.Int64() {
					t.Error("Count", n, least, most, got, want)
				}
				if fixed := 64 - n; sets.Count(dom(up[n:], up, least+fixed, most+fixed)) != want.Int64() {
					t.Error("Count, some are needed", n, least, most)
				}
			}
		}
	}
	for n, want := range map[int]int64{61: 1 << 61, 62: 1 << 62, 63: 1 << 62, 64: 1 << 62} {
		if got := sets.Count(dom(nil, up[:n], 0, n)); got != want {
			t.Error("Count of all sets", n, got)
		}
	}
}

// P4.2, P4.5: great domains, of which few sets are left, and of which the first ones are asked.
func TestEachOfMany(t *testing.T) {
	up := run(64, -32)
	for _, d := range []api.Dom{
		dom(nil, up, 0, 1), dom(nil, up, 2, 2), dom(nil, up, 62, 63), dom(nil, up, 63, 64), dom(nil, up, 64, 64), dom(nil, up, 0, 0),
		dom(up[:60], up, 60, 64), dom(up[4:], up, 60, 64), dom(up[2:62], up, 61, 63), dom(up[20:40], up, 20, 21), dom(up[20:40], up, 63, 64), dom(up[63:], up, 1, 2),
		dom(up[:54], up, 54, 64), dom(up[5:59], up, 54, 64), dom(up[10:], up, 54, 64), // few sets, but many that miss some of what is needed
	} {
		var last []int64
		n := int64(0)
		for l := range sets.Each(d) {
			if !sets.Has(d, l) || n > 0 && sets.Cmp(last, l) >= 0 {
				t.Fatal("Each", d, last, l)
			}
			last = l
			n++
		}
		if n != sets.Count(d) {
			t.Error("Each, Count", d, n, sets.Count(d))
		}
	}
	var got [][]int64
	for l := range sets.Each(dom(nil, up, 0, 64)) {
		if got = append(got, l); len(got) == 3 {
			break
		}
	}
	if !sameSets(got, [][]int64{nil, up[:1], up[:2]}) {
		t.Error("the first sets", got)
	}
	got = nil
	for l := range sets.Each(dom(up[63:], up, 1, 64)) {
		if got = append(got, l); len(got) == 66 {
			break
		}
	}
	if len(got) != 66 || !slices.Equal(got[0], up) || !slices.Equal(got[1], slices.Delete(slices.Clone(up), 62, 63)) {
		t.Error("the first sets, with the last one needed", got[:2])
	}
}

// P4.2: the iterator can be left at each place, and gone through again.
func TestEachLeft(t *testing.T) {
	d := dom(list(2), list(1, 2, 3), 1, 3)
	each := sets.Each(d)
	d.Up[0], d.Lo[0] = 9, 8
	want := [][]int64{{1, 2}, {1, 2, 3}, {2}, {2, 3}}
	for stop := range 5 {
		var got [][]int64
		for l := range each {
			if len(got) == stop {
				break
			}
			got = append(got, slices.Clone(l))
			spoil(l)
		}
		if !sameSets(got, want[:stop]) {
			t.Error("Each, left", stop, got)
		}
	}
}

// P4.2, P4.3: domains that can not be are the empty one.
func TestWrongDomains(t *testing.T) {
	some := dom(nil, list(0, 1, 2), 0, 3)
	for _, w := range append(wrongDoms(), none()) {
		l, ok := sets.Fixed(w)
		if !sets.Empty(w) || sets.Has(w, nil) || sets.Has(w, list(1)) || l != nil || ok || sets.Count(w) != 0 || len(collect(w)) != 0 {
			t.Error("of what can not be there is something", w)
		}
		for _, v := range []int64{least, 0, 1, 2, greatest} {
			alikeDom(t, "Must", sets.Must(w, v), none())
			alikeDom(t, "Not", sets.Not(w, v), none())
		}
		alikeDom(t, "Card", sets.Card(w, 0, 9), none())
		alikeDom(t, "Card", sets.Card(w, math.MinInt, math.MaxInt), none())
		alikeDom(t, "Both", sets.Both(w, some), none())
		alikeDom(t, "Both", sets.Both(some, w), none())
		alikeDom(t, "Both", sets.Both(w, w), none())
		if !sets.Same(w, none()) || !sets.Same(none(), w) || sets.Same(w, some) || sets.Same(some, w) || sets.Same(w, dom(nil, nil, 0, 0)) {
			t.Error("Same", w)
		}
	}
}

// P4.2: of Has, too, a list that is no set is the empty set.
func TestHasOfWrongLists(t *testing.T) {
	for _, w := range wrongs() {
		if !sets.Has(dom(nil, run(64, 0), 0, 64), w) || sets.Has(dom(nil, run(64, 0), 1, 64), w) || !sets.Has(dom(nil, nil, 0, 0), w) {
			t.Error("Has", w)
		}
	}
}

// P4.2, example 1.
func TestExample(t *testing.T) {
	d, e := sets.Of(list(1), list(1, 2, 3), 0, 2)
	if e != api.OK || d.Least != 1 || d.Most != 2 || sets.Count(d) != 3 {
		t.Error("Of", d, e)
	}
	if got := collect(d); !sameSets(got, [][]int64{{1}, {1, 2}, {1, 3}}) {
		t.Error("Each", got)
	}
	alikeDom(t, "Card", sets.Card(d, 2, 9), dom(list(1), list(1, 2, 3), 2, 2))
}

// Rules 4 and 5: domains share no lists with others, nor their two lists with each other.
func TestDomainsAreNew(t *testing.T) {
	lo, up := append(make([]int64, 0, 9), 1, 2), append(make([]int64, 0, 9), 1, 2, 3)
	d := dom(lo, up, 2, 3)
	full := dom(up, up, 3, 3)
	calls := []func() api.Dom{
		func() api.Dom { got, _ := sets.Of(lo, up, 0, 9); return got },
		func() api.Dom { got, _ := sets.Of(lo, up, 3, 9); return got },
		func() api.Dom { got, _ := sets.Of(lo, up, 0, 2); return got },
		func() api.Dom { got, _ := sets.Of(up, up, 0, 9); return got },
		func() api.Dom { return sets.Must(d, 1) },
		func() api.Dom { return sets.Must(d, 3) },
		func() api.Dom { return sets.Not(d, 3) },
		func() api.Dom { return sets.Not(d, 7) },
		func() api.Dom { return sets.Card(d, 0, 9) },
		func() api.Dom { return sets.Card(d, 3, 3) },
		func() api.Dom { return sets.Both(d, d) },
		func() api.Dom { return sets.Both(full, full) },
	}
	for i, call := range calls {
		want := call()
		got := call()
		spoil(got.Lo)
		alike(t, "Up beside Lo that was written", got.Up, want.Up)
		got = call()
		spoil(got.Up)
		alike(t, "Lo beside Up that was written", got.Lo, want.Lo)
		alikeDom(t, "the same again", call(), want)
		if !slices.Equal(lo, list(1, 2)) || !slices.Equal(up, list(1, 2, 3)) || lo[:3][2] != 0 || up[:4][3] != 0 {
			t.Error("an argument is changed", i, lo, up)
		}
	}
	for _, d := range []api.Dom{full, dom(nil, up, 3, 3), dom(lo, up, 2, 2)} {
		l, ok := sets.Fixed(d)
		spoil(l)
		if !ok || !slices.Equal(lo, list(1, 2)) || !slices.Equal(up, list(1, 2, 3)) || up[:4][3] != 0 {
			t.Error("an argument is changed by Fixed", d)
		}
	}
}
