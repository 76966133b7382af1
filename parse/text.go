package parse

import (
	"strconv"
	"strings"

	"jigsaw/api"
)

// between stands between two elements of a list.
const between = ", "

// mostValues is how many values of a dom are written at most: one more than can be read.
const mostValues = api.MaxArray + 1

// writer makes a text of at most so many bytes.
type writer struct {
	text []byte
	room int
}

// put writes on. Where there is no room left, that is thrown: however much a program holds, nothing more of it is looked at then.
func (w *writer) put(parts ...string) {
	for _, s := range parts {
		if len(s) > w.room-len(w.text) {
			panic(fault{e: api.ErrSize})
		}
		w.text = append(w.text, s...)
	}
}

// written is the text of a program, whether it can be or not; ErrSize, if it is too long to be read.
func written(p api.Program) (text string, e api.Errno) {
	defer func() {
		if thrown := recover(); thrown != nil {
			text, e = "", thrown.(fault).e
		}
	}()
	w := writer{room: api.MaxText}
	for _, d := range p.Decls {
		w.decl(d)
	}
	for _, x := range p.Cons {
		w.item(x)
	}
	w.solve(p)
	return string(w.text), api.OK
}

func (w *writer) decl(d api.Decl) {
	w.put(Type(d.Type), ": ", d.Name)
	w.anns(d.Anns)
	if d.Has {
		w.put(" = ")
		w.expr(d.Value)
	}
	w.put(";\n")
}

func (w *writer) item(x api.Item) {
	w.put("constraint ", x.Name)
	w.list("(", x.Args, ")")
	w.anns(x.Anns)
	w.put(";\n")
}

func (w *writer) solve(p api.Program) {
	w.put("solve")
	w.anns(p.Anns)
	switch p.Goal {
	case api.Minimize:
		w.put(" minimize ")
		w.expr(p.Of)
	case api.Maximize:
		w.put(" maximize ")
		w.expr(p.Of)
	default:
		w.put(" satisfy")
	}
	w.put(";\n")
}

func (w *writer) anns(l []api.Expr) {
	for _, e := range l {
		w.put(" :: ")
		w.expr(e)
	}
}

// expr writes an expression; nothing of a Kind that there is not.
func (w *writer) expr(e api.Expr) {
	switch e.Kind {
	case api.EBool:
		w.put(truth(e.N))
	case api.EInt:
		w.put(digits(e.N))
	case api.ERange:
		w.put(digits(e.N), "..", digits(e.M))
	case api.ESet:
		w.list("{", e.L, "}")
	case api.EName:
		w.put(e.Name)
	case api.EAt:
		w.put(e.Name, "[", digits(e.N), "]")
	case api.EArray:
		w.list("[", e.L, "]")
	case api.ECall:
		w.put(e.Name)
		w.list("(", e.L, ")")
	case api.EString:
		w.put(`"`, e.Name, `"`)
	}
}

func (w *writer) list(begin string, l []api.Expr, end string) {
	w.put(begin)
	for i, e := range l {
		if i > 0 {
			w.put(between)
		}
		w.expr(e)
	}
	w.put(end)
}

func truth(n int64) string {
	if n == 1 {
		return "true"
	}
	return "false"
}

func digits(n int64) string {
	return strconv.FormatInt(n, 10)
}

// basicText is what stands in a type's text behind array and var; empty of a Kind that there is not.
func basicText(t api.Type) string {
	numbers := "int"
	if t.Full {
		numbers = domText(t.Dom)
	}
	switch t.Kind {
	case api.YBool:
		return "bool"
	case api.YInt:
		return numbers
	case api.YSet:
		return "set of " + numbers
	}
	return ""
}

// domText is ranges as a dom; those that are not right as none.
func domText(l []api.Range) string {
	if !right(l) {
		l = nil
	}
	if len(l) == 1 {
		return digits(l[0].Lo) + ".." + digits(l[0].Hi)
	}
	var parts []string
	for v := range values(l) {
		if len(parts) == mostValues {
			break
		}
		parts = append(parts, digits(v))
	}
	return "{" + strings.Join(parts, between) + "}"
}
