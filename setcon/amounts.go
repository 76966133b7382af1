package setcon

// amount is something that is counted: the elements of each of three sets, and of what the first two have alone, in common, and together.
type amount int

const (
	first amount = iota
	second
	third
	firstAlone
	secondAlone
	both
	either
	kindsOfAmounts
)

// counted tells in which amounts an element in these places is counted.
func counted(p places) [kindsOfAmounts]bool {
	s, t := p[0], p[1]
	return [...]bool{first: s, second: t, third: p[2], firstAlone: s && !t, secondAlone: t && !s, both: s && t, either: s || t}
}

// over tells in which amounts an element is counted in all of some cases, and in which in some of them; false, if there are no cases.
func over(cases []places) (all, some [kindsOfAmounts]bool, ok bool) {
	for n, p := range cases {
		for i, in := range counted(p) {
			all[i] = in && (all[i] || n == 0)
			some[i] = in || some[i]
		}
	}
	return all, some, len(cases) > 0
}

// span is the numbers from lo to hi.
type span struct {
	lo, hi int
}

// cut takes away what is not from lo to hi; was that a change?
func (s *span) cut(lo, hi int) bool {
	old := *s
	s.lo, s.hi = max(s.lo, lo), min(s.hi, hi)
	return *s != old
}

// amounts is how much each amount may be.
type amounts [kindsOfAmounts]span

// count counts one more element.
func (a *amounts) count(all, some [kindsOfAmounts]bool) {
	for i := range a {
		if all[i] {
			a[i].lo++
		}
		if some[i] {
			a[i].hi++
		}
	}
}

// sum is a whole and its parts.
type sum struct {
	whole amount
	parts []amount
}

// agree takes away what can not be, for some amounts are the sums of others: that of the third set is the sum of made; false, if nothing is left of one of them.
func (a *amounts) agree(made []amount) bool {
	sums := [...]sum{
		{first, []amount{firstAlone, both}},
		{second, []amount{secondAlone, both}},
		{either, []amount{first, secondAlone}},
		{either, []amount{second, firstAlone}},
		{third, made},
	}
	for changed := true; changed; {
		changed = false
		for _, s := range sums {
			changed = a.add(s) || changed
		}
		for _, s := range a {
			if s.lo > s.hi {
				return false
			}
		}
	}
	return true
}

// add makes a whole and its parts agree; was that a change?
func (a *amounts) add(s sum) bool {
	lo, hi := 0, 0
	for _, p := range s.parts {
		lo += a[p].lo
		hi += a[p].hi
	}
	changed := a[s.whole].cut(lo, hi)
	for _, p := range s.parts {
		changed = a[p].cut(a[s.whole].lo-(hi-a[p].hi), a[s.whole].hi-(lo-a[p].lo)) || changed
	}
	return changed
}
