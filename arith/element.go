package arith

import (
	"slices"

	"jigsaw/api"
	"jigsaw/cons"
	"jigsaw/dom"
	"jigsaw/family"
	"jigsaw/kinds"
)

// element is a constraint that y is the row of an array whose number is the index; 1 is the first.
type element struct {
	index api.Term
	rows  []api.Term
	y     api.Term
}

func elementOf(c api.Con) element {
	return element{index: c.Args[0].L[0], rows: c.Args[1].L, y: c.Args[2].L[0]}
}

// holds: does it hold of values?
func (l element) holds(v []api.Val) (bool, api.Errno) {
	i, _ := cons.Of(l.index, v)
	if i.N < 1 || i.N > int64(len(l.rows)) {
		return false, api.OK
	}
	row, _ := cons.Of(l.rows[i.N-1], v)
	y, _ := cons.Of(l.y, v)
	return row.N == y.N && slices.Equal(row.S, y.S), api.OK
}

// narrow leaves the index the numbers of rows that y can be, and y what one of these rows can be.
func (l element) narrow(name string, d *family.Doms) {
	switch name {
	case "array_int_element", "array_bool_element":
		l.narrowNumbers(d)
	case "array_set_element":
		l.narrowSets(d)
	default:
		l.narrowVariables(d)
	}
}

// indexes is the values of an index, of those that it may have, whose rows can be.
func indexes[T any](in []api.Range, array []T, can func(T) bool) []int64 {
	var out []int64
rows:
	for i := range dom.Each(dom.Cut(in, 1, int64(len(array)))) {
		if !can(array[i-1]) {
			continue rows
		}
		out = append(out, i)
	}
	return out
}

// narrowNumbers: of rows that are numbers. They may be beyond Big: y is never that.
func (l element) narrowNumbers(d *family.Doms) {
	numbers := make([]int64, len(l.rows))
	for i, t := range l.rows {
		numbers[i] = t.C.N
	}
	y := d.Get(l.y).R
	good := indexes(d.Get(l.index).R, numbers, func(n int64) bool { return dom.Has(y, n) })
	values := make([]int64, len(good))
	for k, i := range good {
		values[k] = numbers[i-1]
	}
	d.KeepOnly(l.index, good)
	d.KeepOnly(l.y, values)
}

// narrowSets: of rows that are sets.
func (l element) narrowSets(d *family.Doms) {
	rows := make([][]int64, len(l.rows))
	for i, t := range l.rows {
		rows[i] = t.C.S
	}
	y := d.Get(l.y)
	good := indexes(d.Get(l.index).R, rows, func(s []int64) bool { return kinds.Has(y, api.Val{Set: true, S: s}) })
	values := make([][]int64, len(good))
	for k, i := range good {
		values[k] = rows[i-1]
	}
	d.KeepOnly(l.index, good)
	d.KeepSets(l.y, values)
}

// narrowVariables: of rows that may be variables. If there is but one row left, it is y.
func (l element) narrowVariables(d *family.Doms) {
	y := d.Get(l.y).R
	in := func(t api.Term) []api.Range { return d.Get(t).R }
	good := indexes(in(l.index), l.rows, func(t api.Term) bool { return len(dom.Both(in(t), y)) > 0 })
	d.KeepOnly(l.index, good)
	rows := make([]api.Term, len(good))
	for k, i := range good {
		rows[k] = l.rows[i-1]
	}
	d.KeepSome(l.y, rows)
	if len(rows) == 1 {
		d.Keep(rows[0], d.Get(l.y))
		d.Keep(l.y, d.Get(rows[0]))
	}
}
