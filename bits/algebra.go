package bits

import "jigsaw/api"

// change gives each word the bits that f makes of its own and of those of o for the same values: was that a change? o may be s itself: then each word meets just itself.
func (s *Set) change(o *Set, f func(own, other uint64) uint64) bool {
	changed := false
	for i, own := range s.words {
		now := f(own, o.from(s.first+int64(i)*wordBits))
		changed = changed || now != own
		s.words[i] = now
	}
	return changed
}

// And keeps the values that are in o, too: was that a change?
func (s *Set) And(o *Set) (bool, api.Errno) {
	if s == nil {
		return false, api.ErrNil
	}
	return s.change(o, func(own, other uint64) uint64 { return own & other }), api.OK
}

// Or adds o's values: was that a change?
func (s *Set) Or(o *Set) (bool, api.Errno) {
	if s == nil {
		return false, api.ErrNil
	}
	lo, some := o.Min()
	hi, _ := o.Max()
	if some && !(s.fits(lo) && s.fits(hi)) {
		return false, api.ErrDom
	}
	return s.change(o, func(own, other uint64) uint64 { return own | other }), api.OK
}

// Minus keeps the values that are not in o: was that a change?
func (s *Set) Minus(o *Set) (bool, api.Errno) {
	if s == nil {
		return false, api.ErrNil
	}
	return s.change(o, func(own, other uint64) uint64 { return own &^ other }), api.OK
}

// Same: have they the same values, whatever their room? Of nil: no.
func (s *Set) Same(o *Set) bool {
	if s == nil || o == nil || s.Size() != o.Size() {
		return false
	}
	for i, own := range s.words {
		if own != o.from(s.first+int64(i)*wordBits) {
			return false
		}
	}
	return true
}
