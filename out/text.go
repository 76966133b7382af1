package out

import (
	"strconv"

	"jigsaw/api"
	"jigsaw/parse"
)

// What stands in a run's text beside the outputs.
const (
	lineEnd      = "\n"
	blockEnd     = "----------" + lineEnd
	completeLine = "==========" + lineEnd
	unsatLine    = "=====UNSATISFIABLE=====" + lineEnd
	unknownLine  = "=====UNKNOWN=====" + lineEnd
	errorBegin   = "=====ERROR===== "
)

// What is written round values. A comma within a set has no blank behind it, so that it parts no values.
const (
	between  = ", "
	span     = ".."
	setBegin = "{"
	setComma = ","
	setEnd   = "}"
)

// around is what stands ahead of an output's values, and behind them. Whoever writes and whoever reads asks here.
func around(o api.Out) (head, tail string) {
	head, tail = o.Name+" = ", ";"+lineEnd
	if o.One {
		return head, tail
	}
	text := []byte(head + "array" + strconv.Itoa(len(o.Dims)) + "d(")
	for _, r := range o.Dims {
		text = append(text, spanText(r.Lo, r.Hi)...)
		text = append(text, between...)
	}
	return string(append(text, '[')), "])" + tail
}

// texts is values of one kind, one behind the other.
func texts(kind int, l ...api.Val) string {
	var out []byte
	for i, v := range l {
		if i > 0 {
			out = append(out, between...)
		}
		switch kind {
		case api.YBool:
			out = append(out, parse.Expr(api.Expr{Kind: api.EBool, N: v.N})...)
		case api.YInt:
			out = append(out, digits(v.N)...)
		case api.YSet:
			out = append(out, setText(v.S)...)
		}
	}
	return string(out)
}

// setText is a set as text: as a span, if it has several values, and all between.
func setText(l []int64) string {
	last := len(l) - 1
	if last > 0 && l[last]-l[0] == int64(last) {
		return spanText(l[0], l[last])
	}
	text := []byte(setBegin)
	for i, n := range l {
		if i > 0 {
			text = append(text, setComma...)
		}
		text = append(text, digits(n)...)
	}
	return string(append(text, setEnd...))
}

func spanText(lo, hi int64) string {
	return parse.Expr(api.Expr{Kind: api.ERange, N: lo, M: hi})
}

func digits(n int64) string {
	return parse.Expr(api.Expr{Kind: api.EInt, N: n})
}
