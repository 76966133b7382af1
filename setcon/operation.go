package setcon

import (
	"slices"

	"jigsaw/api"
	"jigsaw/cons"
	"jigsaw/family"
	"jigsaw/sets"
)

// maker is how a set is made of two.
type maker struct {
	does   func(s, t []int64) []int64
	has    func(s, t bool) bool // has it an element that is in s, in t, or not?
	amount []amount             // what it has in all: the sum of these
}

func makerOf(name string) maker {
	switch name {
	case "set_union":
		return maker{sets.Join, func(s, t bool) bool { return s || t }, []amount{either}}
	case "set_intersect":
		return maker{sets.Meet, func(s, t bool) bool { return s && t }, []amount{both}}
	case "set_diff":
		return maker{sets.Less, func(s, t bool) bool { return s && !t }, []amount{firstAlone}}
	}
	return maker{sets.Sym, func(s, t bool) bool { return s != t }, []amount{firstAlone, secondAlone}}
}

// operation says that the third set is made of the first two.
type operation struct {
	maker
	terms [3]api.Term
}

// Holds: does it hold of values? (What is made may be too much for a set; then it is not the third one, which is a set.)
func (o operation) Holds(v []api.Val) (bool, api.Errno) {
	var l [3][]int64
	for i, t := range o.terms {
		x, _ := cons.Of(t, v)
		l[i] = x.S
	}
	return slices.Equal(o.does(l[0], l[1]), l[2]), api.OK
}

// Enforce takes away what can not be. No truth hangs on it, so it is always so.
func (o operation) Enforce(d *family.Doms, _ bool) {
	l := trio{maker: o.maker}
	for i, t := range o.terms {
		l.doms[i] = d.Get(t)
		l.twin[i] = slices.IndexFunc(o.terms[:], func(x api.Term) bool { return x.Var == t.Var })
		if t.Var < 0 {
			l.twin[i] = i
		}
	}
	if !l.narrow() {
		d.Fail()
		return
	}
	for i, t := range o.terms {
		d.Keep(t, l.doms[i])
	}
}

// trio is three domains of sets, the third one of which is of what is made of the other two.
type trio struct {
	maker
	doms [3]api.Dom
	twin [3]int // of each of them the first one that is the same variable
}

// places is in which of the three sets an element is.
type places [3]bool

// narrow takes away what can not be, until nothing changes; false, if nothing is left.
func (l *trio) narrow() bool {
	for {
		before := l.doms
		if !l.round() {
			return false
		}
		if slices.EqualFunc(before[:], l.doms[:], sets.Same) {
			return true
		}
	}
}

// round looks at each element, and at how many there may be, once.
func (l *trio) round() bool {
	var lo, up [3][]int64
	var a amounts
	for _, e := range l.elements() {
		all, some, ok := over(l.cases(e))
		if !ok {
			return false
		}
		a.count(all, some)
		for i := range l.doms {
			if all[i] {
				lo[i] = append(lo[i], e)
			}
			if some[i] {
				up[i] = append(up[i], e)
			}
		}
	}
	for i, d := range l.doms {
		a[i].cut(d.Least, d.Most)
	}
	if !a.agree(l.amount) {
		return false
	}
	for i := range l.doms {
		l.doms[i], _ = sets.Of(lo[i], up[i], a[i].lo, a[i].hi)
	}
	return !slices.ContainsFunc(l.doms[:], sets.Empty)
}

// elements is all that are in one of the sets, maybe.
func (l *trio) elements() []int64 {
	out := slices.Concat(l.doms[0].Up, l.doms[1].Up, l.doms[2].Up)
	slices.Sort(out)
	return slices.Compact(out)
}

// cases is where an element may be.
func (l *trio) cases(e int64) []places {
	var must, can places
	for i, d := range l.doms {
		must[i], can[i] = sets.In(e, d.Lo), sets.In(e, d.Up)
	}
	var out []places
cases:
	for _, p := range [...]places{{}, {0: true}, {1: true}, {0: true, 1: true}} {
		p[2] = l.has(p[0], p[1])
		for i, in := range p {
			if in != p[l.twin[i]] || in && !can[i] || !in && must[i] {
				continue cases
			}
		}
		out = append(out, p)
	}
	return out
}
