package linear

import (
	"cmp"
	"slices"

	"jigsaw/api"
	"jigsaw/cons"
	"jigsaw/dom"
	"jigsaw/family"
)

// part is what one variable brings to a sum: its coefficient, which is not 0, times one of its values from lo to hi.
type part struct {
	v      int
	coef   int64
	in     []api.Range // its domain
	first  int         // which of these lo lies in
	last   int         // which of these hi lies in
	lo, hi int64
	width  int64 // how far apart what it may bring was at the beginning
}

// size is the coefficient without its sign.
func (p *part) size() int64 {
	return -leastOf(p.coef, -p.coef)
}

// least is the least that it may bring.
func (p *part) least() int64 {
	return leastOf(p.coef*p.lo, p.coef*p.hi)
}

// most is the most that it may bring.
func (p *part) most() int64 {
	return -leastOf(-p.coef*p.lo, -p.coef*p.hi)
}

// lower takes away what is above v, which is not below lo.
func (p *part) lower(v int64) {
	for p.in[p.last].Lo > v {
		p.last--
	}
	p.hi = leastOf(p.hi, v, p.in[p.last].Hi)
}

// raise takes away what is below v, which is not above hi.
func (p *part) raise(v int64) {
	for p.in[p.first].Hi < v {
		p.first++
	}
	p.lo = max(p.lo, v, p.in[p.first].Lo)
}

// shorter: did it lose anything?
func (p *part) shorter() bool {
	return p.lo > p.in[0].Lo || p.hi < p.in[len(p.in)-1].Hi
}

// leastOf is the least of some values.
func leastOf[T cmp.Ordered](first T, more ...T) T {
	for _, x := range more {
		if x < first {
			first = x
		}
	}
	return first
}

// bounds is a sum over domains: a part for each variable that plays a part in it, and what all of them may come to.
type bounds struct {
	parts []part
	how   relation
	total int64
	least int64
	most  int64
}

// within is the bounds of a sum. Coefficients of one variable are added up, what constants bring is taken from the total. The widest part comes first.
func (s sum) within(d *family.Doms) *bounds {
	b := &bounds{how: s.how, total: s.total}
	coefs := map[int]int64{}
	for i, t := range s.terms {
		if t.Var < 0 {
			b.total -= s.coefs[i] * t.C.N
			continue
		}
		coefs[t.Var] += s.coefs[i]
	}
	for v, coef := range coefs {
		if coef != 0 {
			b.add(v, coef, d.Get(cons.Var(v)).R)
		}
	}
	slices.SortFunc(b.parts, func(x, y part) int {
		return cmp.Or(cmp.Compare(y.width, x.width), cmp.Compare(x.v, y.v))
	})
	return b
}

func (b *bounds) add(v int, coef int64, in []api.Range) {
	last := len(in) - 1
	p := part{v: v, coef: coef, in: in, last: last, lo: in[0].Lo, hi: in[last].Hi}
	p.width = p.most() - p.least()
	b.parts = append(b.parts, p)
	b.least += p.least()
	b.most += p.most()
}

// can: may the sum be as it should, by its least and its most?
func (b *bounds) can() bool {
	switch b.how {
	case equal:
		return b.least <= b.total && b.total <= b.most
	case unequal:
		return b.least != b.total || b.total != b.most
	}
	return b.least <= b.total
}

// room is how wide a part must be at least, and some more, so that something of it goes.
func (b *bounds) room() int64 {
	if b.how == equal {
		return leastOf(b.total-b.least, b.most-b.total)
	}
	return b.total - b.least
}

// tighten takes from each part the values that are too great for the sum, or (of equal) too small, until no part has any; false, if the sum can not be as it should.
func (b *bounds) tighten() bool {
	can := b.can()
	if b.how == unequal {
		return can
	}
scan:
	for changed := can; changed; {
		changed = false
		for i := range b.parts {
			if b.parts[i].width <= b.room() {
				continue scan // none of those behind is wider
			}
			if !b.squeeze(&b.parts[i]) {
				continue
			}
			changed = true
			if can = b.can(); !can {
				break scan
			}
		}
	}
	return can && !b.apart()
}

// squeeze takes from one part what is too great, and (of equal) what is too small; was that a change? Its own end that is farthest from the total stays, for the sum can be as it should.
func (b *bounds) squeeze(p *part) bool {
	changed := b.shorten(p, b.total-b.least, p.coef > 0)
	if b.how == equal && b.can() {
		changed = b.shorten(p, b.most-b.total, p.coef < 0) || changed
	}
	return changed
}

// shorten leaves a part, from its one end on, as much as there is room for: its greatest values go, or its least ones.
func (b *bounds) shorten(p *part, room int64, top bool) bool {
	old := *p
	step := room / p.size()
	if top {
		p.lower(p.lo + step)
	} else {
		p.raise(p.hi - step)
	}
	b.least += p.least() - old.least()
	b.most += p.most() - old.most()
	return p.lo != old.lo || p.hi != old.hi
}

// twins: is it just that two variables are equal?
func (b *bounds) twins() bool {
	return b.how == equal && b.total == 0 && len(b.parts) == 2 && b.parts[0].coef == -b.parts[1].coef
}

// apart: are two variables to be equal that have no value in common?
func (b *bounds) apart() bool {
	return b.twins() && len(dom.Both(b.parts[0].in, b.parts[1].in)) == 0
}

// hand takes from the domains what was taken from the parts.
func (b *bounds) hand(d *family.Doms) {
	for _, p := range b.parts {
		if p.shorter() {
			d.Cut(cons.Var(p.v), p.lo, p.hi)
		}
	}
	if b.twins() {
		x, y := cons.Var(b.parts[0].v), cons.Var(b.parts[1].v)
		d.Keep(x, d.Get(y))
		d.Keep(y, d.Get(x))
	}
}

// avoid takes from the only part that has several values the one with which the sum would be the total.
func (b *bounds) avoid(d *family.Doms) {
	var open []part
	for _, p := range b.parts {
		if p.lo < p.hi {
			open = append(open, p)
		}
	}
	if len(open) != 1 {
		return
	}
	p := open[0]
	if rest := b.total - b.least + p.least(); rest%p.coef == 0 {
		d.Drop(cons.Var(p.v), rest/p.coef)
	}
}
