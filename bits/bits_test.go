package bits_test

import (
	"math/bits"
	"slices"
	"testing"

	"jigsaw/api"
	jb "jigsaw/bits"
	"jigsaw/dom"
)

// P3.1: which rooms there are.
func TestNew(t *testing.T) {
	for _, c := range []struct {
		lo, hi, room int64
		e            api.Errno
	}{
		{0, 0, 1, api.OK},
		{-3, 7, 11, api.OK},
		{-maxBig, -maxBig, 1, api.OK},
		{maxBig, maxBig, 1, api.OK},
		{0, 65535, 65536, api.OK},
		{-maxBig, -maxBig + 65535, 65536, api.OK},
		{maxBig - 65535, maxBig, 65536, api.OK},
		{0, 65536, 0, api.ErrFull},
		{-maxBig, maxBig, 0, api.ErrFull},
		{1, 0, 0, api.ErrDom},
		{maxBig, -maxBig, 0, api.ErrDom},
		{-maxBig - 1, -maxBig, 0, api.ErrDom},
		{maxBig, maxBig + 1, 0, api.ErrDom},
		{maxBig + 1, maxBig, 0, api.ErrDom},
		{-maxBig, -maxBig - 1, 0, api.ErrDom},
		{maxBig + 1, maxBig + 1, 0, api.ErrDom},
		{-maxBig - 1, maxBig + 1, 0, api.ErrDom},
		{least, greatest, 0, api.ErrDom},
		{greatest, least, 0, api.ErrDom},
		{least, least, 0, api.ErrDom},
	} {
		s, e := jb.New(c.lo, c.hi)
		if e != c.e || (s == nil) != (c.e != api.OK) {
			t.Error("New", c.lo, c.hi, e)
			continue
		}
		if s != nil && (s.First() != c.lo || s.Room() != c.room || s.Size() != 0 || len(values(s)) != 0 || int64(len(s.Words())) != (c.room+63)/64) {
			t.Error("New", c.lo, c.hi, s.First(), s.Room(), s.Size(), len(s.Words()))
		}
	}
}

// P3.1, P3.4: the room that ranges need, and back.
func TestOf(t *testing.T) {
	for _, l := range [][]api.Range{
		ranges(r(0, 0)),
		ranges(r(1, 3), r(7, 7)),
		ranges(r(-5, -1), r(1, 60), r(62, 64), r(66, 200)),
		ranges(r(-maxBig, -maxBig), r(-maxBig+65535, -maxBig+65535)),
		ranges(r(maxBig-65535, maxBig)),
		comb(api.MaxRanges, -4000),
		comb(api.MaxRanges, -maxBig),
	} {
		kept := slices.Clone(l)
		s := of(t, l)
		lo, _ := dom.Min(l)
		hi, _ := dom.Max(l)
		if s.First() != lo || s.Room() != hi-lo+1 || s.Size() != dom.Size(l) {
			t.Error("Of", lo, hi, s.First(), s.Room(), s.Size())
		}
		back, e := s.Ranges()
		if e != api.OK || !slices.Equal(back, l) {
			t.Error("Ranges of Of", e, len(back), len(l))
		}
		if !slices.Equal(values(s), slices.Collect(dom.Each(l))) {
			t.Error("Each of Of", lo, hi)
		}
		if !slices.Equal(l, kept) {
			t.Error("Of changed its argument")
		}
	}
}

// P3.1: what is refused, and which error comes first.
func TestOfWrong(t *testing.T) {
	for _, l := range append(wrongs(), nil, ranges()) {
		if s, e := jb.Of(l); s != nil || e != api.ErrDom {
			t.Error("Of what is not right, or empty", len(l), s, e)
		}
	}
	for _, l := range [][]api.Range{
		ranges(r(0, 65536)),
		ranges(r(0, 0), r(65536, 65536)),
		ranges(r(-maxBig, maxBig)),
		ranges(r(-maxBig, -maxBig), r(maxBig, maxBig)),
	} {
		if s, e := jb.Of(l); s != nil || e != api.ErrFull {
			t.Error("Of what is too wide", l, s, e)
		}
	}
}

// P3.1: Ranges at the limit, and beyond it.
func TestRangesAtTheLimit(t *testing.T) {
	s := room(t, -10, 60000)
	for _, x := range comb(api.MaxRanges, 0) {
		s.Add(x.Lo)
	}
	l, e := s.Ranges()
	if e != api.OK || !slices.Equal(l, comb(api.MaxRanges, 0)) {
		t.Error("Ranges at the limit", len(l), e)
	}
	s.Add(9000)
	if l, e := s.Ranges(); e != api.ErrFull || l != nil {
		t.Error("Ranges beyond the limit", len(l), e)
	}
	s.Add(1)
	if l, e := s.Ranges(); e != api.OK || len(l) != api.MaxRanges || l[0] != r(0, 2) || l[4095] != r(9000, 9000) {
		t.Error("Ranges at the limit again", len(l), e)
	}
	if l, e := room(t, 0, 9).Ranges(); len(l) != 0 || e != api.OK {
		t.Error("Ranges of none", l, e)
	}
}

// P3.1: of nil.
func TestNil(t *testing.T) {
	var s *jb.Set
	some := room(t, 0, 9, 4)
	if l, e := s.Ranges(); l != nil || e != api.ErrNil {
		t.Error("Ranges", l, e)
	}
	for _, v := range []int64{0, 1, least, greatest} {
		ok, e := s.Add(v)
		answer(t, "Add", ok, e, false, api.ErrNil)
		ok, e = s.Del(v)
		answer(t, "Del", ok, e, false, api.ErrNil)
		if n, ok := s.Next(v); s.Has(v) || n != 0 || ok {
			t.Error("Has, Next", v, n, ok)
		}
	}
	for _, o := range []*jb.Set{nil, some} {
		ok, e := s.And(o)
		answer(t, "And", ok, e, false, api.ErrNil)
		ok, e = s.Or(o)
		answer(t, "Or", ok, e, false, api.ErrNil)
		ok, e = s.Minus(o)
		answer(t, "Minus", ok, e, false, api.ErrNil)
		if s.Same(o) || o.Same(s) {
			t.Error("Same", o)
		}
	}
	lo, okLo := s.Min()
	hi, okHi := s.Max()
	if s.First() != 0 || s.Room() != 0 || s.Size() != 0 || lo != 0 || hi != 0 || okLo || okHi || s.Copy() != nil || len(s.Words()) != 0 || len(values(s)) != 0 {
		t.Error("of nil there is something")
	}
	alike(t, "what was handed in", some, 4)
}

// P1: one that was never made has no room, and no call of it panics.
func TestZero(t *testing.T) {
	var s jb.Set
	ok, e := s.Add(0)
	answer(t, "Add", ok, e, false, api.ErrDom)
	ok, e = s.Del(0)
	answer(t, "Del", ok, e, false, api.OK)
	ok, e = s.Or(room(t, 0, 9, 4))
	answer(t, "Or", ok, e, false, api.ErrDom)
	ok, e = s.Or(room(t, 0, 9))
	answer(t, "Or", ok, e, false, api.OK)
	ok, e = s.And(room(t, 0, 9, 4))
	answer(t, "And", ok, e, false, api.OK)
	l, e := s.Ranges()
	if s.Has(0) || s.Size() != 0 || s.Room() != 0 || len(l) != 0 || e != api.OK || len(s.Copy().Words()) != 0 || !s.Same(room(t, 5, 9)) {
		t.Error("of one that was never made there is something")
	}
}

// P3.2, example 1.
func TestExample(t *testing.T) {
	s := of(t, ranges(r(1, 3), r(7, 7)))
	if s.First() != 1 || s.Room() != 7 || !slices.Equal(s.Words(), []uint64{0x47}) {
		t.Error("Of", s.First(), s.Room(), s.Words())
	}
	ok, e := s.Del(2)
	answer(t, "Del", ok, e, true, api.OK)
	if !slices.Equal(s.Words(), []uint64{0x45}) {
		t.Error("Words", s.Words())
	}
	ok, e = s.Add(9)
	answer(t, "Add", ok, e, false, api.ErrDom)
	if n, ok := s.Next(4); n != 7 || !ok {
		t.Error("Next", n, ok)
	}
}

// P3.2, P3.6: each value by itself, in rooms of few and of many words.
func TestOneByOne(t *testing.T) {
	for _, first := range []int64{-maxBig, -100, -1, 0, 5, 64, maxBig - 200} {
		for _, size := range []int64{1, 2, 63, 64, 65, 127, 128, 129, 200} {
			s := room(t, first, first+size-1)
			for i := range size {
				ok, e := s.Add(first + i)
				answer(t, "Add", ok, e, true, api.OK)
				alike(t, "one value", s, first+i)
				words := make([]uint64, (size+63)/64)
				words[i/64] = 1 << (i % 64)
				if !slices.Equal(s.Words(), words) {
					t.Error("Words", i, s.Words())
				}
				lo, okLo := s.Min()
				hi, okHi := s.Max()
				if lo != first+i || hi != lo || !okLo || !okHi || s.Size() != 1 || !s.Has(lo) || s.Has(lo-1) || s.Has(lo+1) {
					t.Error("of one value", first, size, i)
				}
				ok, e = s.Add(first + i)
				answer(t, "Add again", ok, e, false, api.OK)
				ok, e = s.Del(first + i)
				answer(t, "Del", ok, e, true, api.OK)
				ok, e = s.Del(first + i)
				answer(t, "Del again", ok, e, false, api.OK)
				if s.Size() != 0 || s.Has(first+i) {
					t.Error("of none", first, size, i)
				}
			}
		}
	}
}

// P3.2: values for which there is no room.
func TestWithoutRoom(t *testing.T) {
	for _, s := range []*jb.Set{of(t, ranges(r(1, 3), r(7, 7))), of(t, ranges(r(-maxBig, -maxBig))), of(t, ranges(r(maxBig, maxBig))), of(t, ranges(r(0, 65535))), of(t, ranges(r(0, 100)))} {
		was := values(s)
		for _, v := range []int64{least, least + 1, -maxBig - 1, s.First() - 1, s.First() + s.Room(), s.First() + s.Room() + 63, maxBig + 1, greatest - 1, greatest} {
			ok, e := s.Add(v)
			answer(t, "Add", ok, e, false, api.ErrDom)
			ok, e = s.Del(v)
			answer(t, "Del", ok, e, false, api.OK)
			if s.Has(v) {
				t.Error("Has", v)
			}
		}
		if !slices.Equal(values(s), was) {
			t.Error("a refused call changed something")
		}
	}
}

// P3.2: as dom has them.
func TestAsDom(t *testing.T) {
	for _, l := range [][]api.Range{
		ranges(r(1, 3), r(7, 7)),
		ranges(r(-70, -66), r(-3, 60), r(130, 131), r(300, 300)),
		ranges(r(-maxBig, -maxBig+1), r(-maxBig+64, -maxBig+64), r(-maxBig+900, -maxBig+901)),
		ranges(r(maxBig-500, maxBig-400), r(maxBig, maxBig)),
	} {
		s := of(t, l)
		lo, _ := dom.Min(l)
		hi, _ := dom.Max(l)
		asks := []int64{least, -maxBig - 1, maxBig + 1, greatest}
		for v := lo - 70; v <= hi+70; v++ {
			asks = append(asks, v)
		}
		for _, v := range asks {
			n, ok := s.Next(v)
			want, wantOk := dom.Next(l, v)
			if n != want || ok != wantOk || s.Has(v) != dom.Has(l, v) {
				t.Error("Next, Has", v, n, ok, want, wantOk)
			}
		}
		gotLo, okLo := s.Min()
		gotHi, okHi := s.Max()
		if gotLo != lo || gotHi != hi || !okLo || !okHi || s.Size() != dom.Size(l) {
			t.Error("Min, Max, Size", gotLo, gotHi, s.Size())
		}
	}
	s := room(t, 0, 200)
	lo, okLo := s.Min()
	hi, okHi := s.Max()
	if n, ok := s.Next(0); n != 0 || lo != 0 || hi != 0 || ok || okLo || okHi {
		t.Error("of none", n, lo, hi)
	}
}

// P3.2: Each tells what was there when it was called; it can be left, and gone through again.
func TestEach(t *testing.T) {
	s := room(t, -5, 200, -5, 0, 63, 64, 200)
	each := s.Each()
	s.Del(0)
	s.Add(1)
	for range 2 {
		if got := slices.Collect(each); !slices.Equal(got, []int64{-5, 0, 63, 64, 200}) {
			t.Error("Each", got)
		}
	}
	var got []int64
	for v := range each {
		s.Del(v)
		if v == 63 {
			break
		}
		got = append(got, v)
	}
	if !slices.Equal(got, []int64{-5, 0}) {
		t.Error("Each, left", got)
	}
	alike(t, "what is there now", s, 1, 64, 200)
}

// P3.6, rules 4 and 5: words that are handed out are nobody else's.
func TestWords(t *testing.T) {
	s := of(t, ranges(r(0, 65535)))
	if words := s.Words(); len(words) != 1024 || slices.ContainsFunc(words, func(w uint64) bool { return w != 1<<64-1 }) {
		t.Error("Words of all", len(words))
	}
	s = room(t, -7, 130, -7, 57, 130)
	want := []uint64{1, 1, 1 << 9}
	for range 2 {
		words := s.Words()
		n := 0
		for _, w := range words {
			n += bits.OnesCount64(w)
		}
		if !slices.Equal(words, want) || int64(n) != s.Size() {
			t.Error("Words", words)
		}
		more := append(words, 7)
		more[0], words[1] = 99, 98
	}
	alike(t, "what is there", s, -7, 57, 130)
	l, _ := s.Ranges()
	l[0] = r(9, 9)
	alike(t, "what is there", s, -7, 57, 130)
}

// Rule 5: ranges that are handed in are not kept.
func TestOfKeepsNothing(t *testing.T) {
	l := ranges(r(1, 3), r(7, 7))
	s := of(t, l)
	l[0], l[1] = r(0, 0), r(2, 2)
	alike(t, "what is there", s, 1, 2, 3, 7)
}
