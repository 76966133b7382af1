package bits

import (
	"iter"
	"math"
	"math/bits"

	"jigsaw/api"
)

// fits: has it room for v?
func (s *Set) fits(v int64) bool {
	return s != nil && s.first <= v && v < s.first+s.room
}

// from is the bits of the 64 values from v on: bit n is whether v and n together is there. v is not far beyond Big.
func (s *Set) from(v int64) uint64 {
	if s == nil {
		return 0
	}
	n := v - s.first
	at, by := n>>6, n&(wordBits-1) // rounded down, also where v is below the first value
	return s.word(at)>>by | s.word(at+1)<<(wordBits-by)
}

// word is the word with that number; 0, if there is none.
func (s *Set) word(at int64) uint64 {
	if at < 0 || at >= int64(len(s.words)) {
		return 0
	}
	return s.words[at]
}

// turn makes a value for which there is room be there, if it is not, and not be there, if it is.
func (s *Set) turn(v int64) {
	n := v - s.first
	s.words[n/wordBits] ^= 1 << (n % wordBits)
}

// Add makes v be there: was it not?
func (s *Set) Add(v int64) (bool, api.Errno) {
	switch {
	case s == nil:
		return false, api.ErrNil
	case !s.fits(v):
		return false, api.ErrDom
	case s.Has(v):
		return false, api.OK
	}
	s.turn(v)
	return true, api.OK
}

// Del makes v not be there: was it?
func (s *Set) Del(v int64) (bool, api.Errno) {
	switch {
	case s == nil:
		return false, api.ErrNil
	case !s.Has(v):
		return false, api.OK
	}
	s.turn(v)
	return true, api.OK
}

// Has: is v a value?
func (s *Set) Has(v int64) bool {
	return s.fits(v) && s.from(v)&1 == 1
}

// Size is how many values there are.
func (s *Set) Size() int64 {
	if s == nil {
		return 0
	}
	n := 0
	for _, w := range s.words {
		n += bits.OnesCount64(w)
	}
	return int64(n)
}

// Min is the least value; false of none.
func (s *Set) Min() (int64, bool) {
	return s.Next(math.MinInt64)
}

// Max is the greatest value; false of none.
func (s *Set) Max() (int64, bool) {
	if s == nil {
		return 0, false
	}
	for at := len(s.words) - 1; at >= 0; at-- {
		if w := s.words[at]; w != 0 {
			return s.first + int64(at*wordBits+bits.Len64(w)-1), true
		}
	}
	return 0, false
}

// Next is the least value that is not below v; false, if there is none.
func (s *Set) Next(v int64) (int64, bool) {
	if s == nil {
		return 0, false
	}
	for at := max(v, s.first); s.fits(at); at += wordBits {
		if w := s.from(at); w != 0 {
			return at + int64(bits.TrailingZeros64(w)), true
		}
	}
	return 0, false
}

// Each is all values as they are now, rising.
func (s *Set) Each() iter.Seq[int64] {
	own := s.Copy()
	return func(yield func(int64) bool) {
		for v, ok := own.Min(); ok; v, ok = own.Next(v + 1) {
			if !yield(v) {
				return
			}
		}
	}
}
