package bits_test

import (
	"math/rand"
	"slices"
	"testing"

	"jigsaw/api"
	"jigsaw/bits"
	"jigsaw/dom"
)

// change is And, Or or Minus, and what dom says of it.
type change struct {
	name string
	call func(s, o *bits.Set) (bool, api.Errno)
	want func(a, b []api.Range) []api.Range
}

func changes() []change {
	return []change{
		{"And", (*bits.Set).And, dom.Both},
		{"Or", (*bits.Set).Or, func(a, b []api.Range) []api.Range { l, _ := dom.Either(a, b); return l }},
		{"Minus", (*bits.Set).Minus, func(a, b []api.Range) []api.Range { l, _ := dom.Less(a, b); return l }},
	}
}

// holdAgainst makes one change, and holds it against what dom says, and against the room.
func holdAgainst(t *testing.T, c change, s, o *bits.Set) {
	t.Helper()
	was, _ := s.Ranges()
	other, _ := o.Ranges()
	want, wantErr := c.want(was, other), api.OK
	if !dom.Within(want, ranges(r(s.First(), s.First()+s.Room()-1))) {
		want, wantErr = was, api.ErrDom
	}
	ok, e := c.call(s, o)
	answer(t, c.name, ok, e, !slices.Equal(was, want), wantErr)
	if got, _ := s.Ranges(); !slices.Equal(got, want) {
		t.Error(c.name, was, other, got, want)
	}
	if still, _ := o.Ranges(); !slices.Equal(still, other) {
		t.Error(c.name, "changed what was handed in")
	}
	if s.Size() != dom.Size(want) {
		t.Error(c.name, "Size", s.Size())
	}
}

// P3.3, P3.4: sets of small rooms, wherever these lie to each other.
func TestAlgebraOfSmallRooms(t *testing.T) {
	for _, c := range changes() {
		for shift := int64(-5); shift <= 5; shift++ {
			for mine := range 16 {
				for theirs := range 16 {
					s, o := room(t, 0, 3), room(t, shift, shift+3)
					for i := range int64(4) {
						if mine>>i&1 == 1 {
							s.Add(i)
						}
						if theirs>>i&1 == 1 {
							o.Add(shift + i)
						}
					}
					holdAgainst(t, c, s, o)
				}
			}
		}
	}
}

// P3.3, P3.4: sets of several words, by draws that are always the same.
func TestAlgebraOfManyWords(t *testing.T) {
	draw := rand.New(rand.NewSource(3))
	some := func(lo, size int64) *bits.Set {
		s := room(t, lo, lo+size-1)
		for range draw.Intn(200) {
			s.Add(lo + draw.Int63n(size))
		}
		return s
	}
	for _, base := range []int64{-maxBig, 0, maxBig - 1000} {
		for range 600 {
			s := some(base+draw.Int63n(300), 1+draw.Int63n(400))
			o := some(base+draw.Int63n(300), 1+draw.Int63n(400))
			for _, c := range changes() {
				holdAgainst(t, c, s.Copy(), o)
			}
			within := room(t, base, base+1000)
			for v := range s.Each() {
				within.Add(v)
			}
			if !within.Same(s) || !s.Same(within) || s.Same(o) != slices.Equal(values(s), values(o)) {
				t.Error("Same", base)
			}
			holdAgainst(t, changes()[1], within, o)
		}
	}
}

// P3.3: rooms that have nothing in common, at both ends of all values.
func TestFarRooms(t *testing.T) {
	for _, c := range changes() {
		low, high := room(t, -maxBig, -maxBig+65535, -maxBig, -maxBig+65535), room(t, maxBig-65535, maxBig, maxBig-65535, maxBig)
		holdAgainst(t, c, low.Copy(), high)
		holdAgainst(t, c, high.Copy(), low)
		holdAgainst(t, c, low.Copy(), low)
		holdAgainst(t, c, high.Copy(), room(t, maxBig, maxBig, maxBig))
		holdAgainst(t, c, room(t, maxBig, maxBig, maxBig), high)
	}
}

// P3.3: o that is s itself.
func TestOfItself(t *testing.T) {
	for _, l := range [][]api.Range{ranges(r(1, 3), r(7, 7)), ranges(r(0, 63)), ranges(r(-5, 200), r(300, 301)), ranges(r(0, 65535))} {
		s := of(t, l)
		ok, e := s.And(s)
		answer(t, "And", ok, e, false, api.OK)
		ok, e = s.Or(s)
		answer(t, "Or", ok, e, false, api.OK)
		if got, _ := s.Ranges(); !slices.Equal(got, l) || !s.Same(s) {
			t.Error("And, Or, Same of itself", got)
		}
		ok, e = s.Minus(s)
		answer(t, "Minus", ok, e, true, api.OK)
		if s.Size() != 0 || !s.Same(s) {
			t.Error("Minus of itself")
		}
		ok, e = s.Minus(s)
		answer(t, "Minus of none", ok, e, false, api.OK)
	}
}

// P3.3: a nil o has no values.
func TestOfNil(t *testing.T) {
	s := room(t, 0, 99, 3, 70)
	ok, e := s.Minus(nil)
	answer(t, "Minus", ok, e, false, api.OK)
	ok, e = s.Or(nil)
	answer(t, "Or", ok, e, false, api.OK)
	alike(t, "Minus, Or of nil", s, 3, 70)
	ok, e = s.And(nil)
	answer(t, "And", ok, e, true, api.OK)
	alike(t, "And of nil", s)
	ok, e = s.And(nil)
	answer(t, "And of none", ok, e, false, api.OK)
}

// P3.3: Or asks for o's values, not for its room.
func TestOrAndRooms(t *testing.T) {
	s := room(t, 0, 9, 1)
	ok, e := s.Or(room(t, -100, 100, 0, 9))
	answer(t, "Or from a wide room", ok, e, true, api.OK)
	alike(t, "Or from a wide room", s, 0, 1, 9)
	for _, o := range []*bits.Set{room(t, -100, 100, 5, 10), room(t, -100, 100, -1, 5), room(t, -100, 100, -64, 100)} {
		ok, e = s.Or(o)
		answer(t, "Or without room", ok, e, false, api.ErrDom)
		alike(t, "Or without room", s, 0, 1, 9)
	}
	ok, e = s.Or(room(t, -100, 100))
	answer(t, "Or of none", ok, e, false, api.OK)
}

// P3.5: a copy goes its own way.
func TestCopy(t *testing.T) {
	s := room(t, -3, 100, -3, 64, 100)
	c := s.Copy()
	if c == s || c.First() != -3 || c.Room() != 104 || !c.Same(s) {
		t.Error("Copy", c.First(), c.Room())
	}
	s.Del(64)
	alike(t, "the copy", c, -3, 64, 100)
	c.Add(5)
	c.Del(-3)
	alike(t, "the one that was copied", s, -3, 100)
	alike(t, "the copy", c, 5, 64, 100)
	c.And(nil)
	alike(t, "the one that was copied", s, -3, 100)
}

// P3.3: the same values, whatever the room.
func TestSame(t *testing.T) {
	a, b := room(t, 0, 0, 0), room(t, -60000, 5000, 0)
	if !a.Same(b) || !b.Same(a) {
		t.Error("Same of other rooms")
	}
	b.Add(-60000)
	if a.Same(b) || b.Same(a) {
		t.Error("Same, but one has more below")
	}
	b.Del(-60000)
	b.Add(5000)
	if a.Same(b) || b.Same(a) {
		t.Error("Same, but one has more above")
	}
	b.Del(0)
	if a.Same(b) || b.Same(a) {
		t.Error("Same, but other values")
	}
	if !room(t, 0, 9).Same(room(t, 500, 900)) {
		t.Error("Same of none")
	}
	var none *bits.Set
	if none.Same(nil) || none.Same(a) || a.Same(nil) || room(t, 0, 9).Same(nil) {
		t.Error("Same of nil")
	}
}
