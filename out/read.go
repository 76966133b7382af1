package out

import (
	"slices"
	"strconv"
	"strings"

	"jigsaw/api"
)

// fault is what is thrown where a text is no block: the place.
type fault struct {
	at int
}

// reader goes through a text, from a place on.
type reader struct {
	text string
	at   int
}

// blockAt is the values of the block that begins at a place, and the place behind it; or the place at which it is none, and false.
func blockAt(s string, at int, l []api.Out) (all [][]api.Val, end int, ok bool) {
	defer func() {
		if thrown := recover(); thrown != nil {
			all, end, ok = nil, thrown.(fault).at, false
		}
	}()
	r := reader{text: s, at: at}
	for _, o := range l {
		all = append(all, r.output(o))
	}
	r.need(blockEnd)
	return all, r.at, true
}

// output is the values of one output, which must stand here.
func (r *reader) output(o api.Out) []api.Val {
	var l []api.Val
	head, tail := around(o)
	r.need(head)
	for i, t := range o.L {
		if i > 0 {
			r.need(between)
		}
		l = append(l, r.term(t, o.Kind))
	}
	r.need(tail)
	return l
}

// need goes on behind a text that must stand here. What is thrown is the place of the first byte that is another one, or the end.
func (r *reader) need(text string) {
	for i := range len(text) {
		if r.at == len(r.text) || r.text[r.at] != text[i] {
			panic(fault{at: r.at})
		}
		r.at++
	}
}

// term is the value of a term; of a constant it must be its own.
func (r *reader) term(t api.Term, kind int) api.Val {
	from := r.at
	v := r.value(kind)
	if t.Var == constant && (v.N != t.C.N || !slices.Equal(v.S, t.C.S)) {
		panic(fault{at: from})
	}
	return v
}

// value is the value of a kind that stands here.
func (r *reader) value(kind int) api.Val {
	switch kind {
	case api.YBool:
		return r.truth()
	case api.YSet:
		return r.whole(kind, r.setEnd(), setOf)
	}
	return r.whole(kind, r.numberEnd(), numberOf)
}

// truth is told byte by byte, as all that has no other rule.
func (r *reader) truth() api.Val {
	v := api.Val{N: 1}
	if strings.HasPrefix(r.text[r.at:], "f") {
		v.N = 0
	}
	r.need(texts(api.YBool, v))
	return v
}

// whole is what stands from here up to an end, as one value. What is not written as it would be is at fault as a whole.
func (r *reader) whole(kind, end int, read func(string) api.Val) api.Val {
	text := r.text[r.at:end]
	v := read(text)
	if !isValue(v, kind) || texts(kind, v) != text {
		panic(fault{at: r.at})
	}
	r.at = end
	return v
}

// numberEnd is the place behind the digits and - that stand here.
func (r *reader) numberEnd() int {
	end := r.at
	for end < len(r.text) && ofNumber(r.text[end]) {
		end++
	}
	return end
}

func ofNumber(c byte) bool {
	return '0' <= c && c <= '9' || c == '-'
}

// setEnd is the place behind all of a set that stands here: a comma that a blank follows stands behind it.
func (r *reader) setEnd() int {
	end := r.at
	for end < len(r.text) && ofSet(r.text[end]) && !strings.HasPrefix(r.text[end:], between) {
		end++
	}
	return end
}

func ofSet(c byte) bool {
	return ofNumber(c) || c == '.' || c == '{' || c == '}' || c == ','
}

// numberOf is the number of a text that is one; of others any value.
func numberOf(s string) api.Val {
	n, _ := strconv.ParseInt(s, 10, 64)
	return api.Val{N: n}
}

// setOf is the set of a text that is one; of others any value.
func setOf(s string) api.Val {
	v := api.Val{Set: true}
	if first, last, ok := strings.Cut(s, span); ok {
		lo, hi := numberOf(first).N, numberOf(last).N
		for n := lo; n <= hi && len(v.S) <= api.MaxElems; n++ {
			v.S = append(v.S, n)
		}
		return v
	}
	if s = strings.Trim(s, setBegin+setEnd); s == "" {
		return v
	}
	for _, number := range strings.Split(s, setComma) {
		v.S = append(v.S, numberOf(number).N)
	}
	return v
}
