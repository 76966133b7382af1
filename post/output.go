package post

import (
	"slices"

	"jigsaw/api"
	"jigsaw/check"
)

// The annotations of declarations that say what is printed.
const (
	outputVar   = "output_var"
	outputArray = "output_array"
)

// outputs is what is printed, in the order of the declarations; or the first one at fault.
func outputs(env *check.Env, l []api.Decl) ([]api.Out, error) {
	var out []api.Out
	for i, d := range l {
		n := slices.IndexFunc(d.Anns, isOutput)
		if n < 0 {
			continue
		}
		o, err := output(env, d, d.Anns[n])
		if err != nil {
			return nil, fault{part: InDecl, at: i, why: err}
		}
		out = append(out, o)
	}
	return out, nil
}

// isOutput: does an annotation say that its declaration is printed? What output_array lacks without arguments is a fault, so that a name is one, too.
func isOutput(a api.Expr) bool {
	name := a.Kind == api.EName
	return name && a.Name == outputVar || (name || a.Kind == api.ECall) && a.Name == outputArray
}

// output is a declaration as an output, as its annotation says.
func output(env *check.Env, d api.Decl, a api.Expr) (api.Out, error) {
	if a.Name == outputVar {
		return oneOutput(env, d)
	}
	return arrayOutput(env, d, a)
}

func oneOutput(env *check.Env, d api.Decl) (api.Out, error) {
	t, e := env.Term(d.Name)
	if e != api.OK || !d.Type.Var {
		return api.Out{}, errOut
	}
	return api.Out{Name: d.Name, L: []api.Term{t}, Kind: d.Type.Kind, One: true}, nil
}

func arrayOutput(env *check.Env, d api.Decl, a api.Expr) (api.Out, error) {
	l, e := env.Array(d.Name)
	if e != api.OK || a.Kind != api.ECall || len(a.L) != 1 {
		return api.Out{}, errOut
	}
	dims, ok := dimensions(a.L[0])
	if !ok || product(dims, int64(len(l))+1) != int64(len(l)) {
		return api.Out{}, errOut
	}
	return api.Out{Name: d.Name, Dims: dims, L: l, Kind: d.Type.Kind}, nil
}

// dimensions is the ranges of an array of them; false, if it is none, or one is beyond.
func dimensions(x api.Expr) ([]api.Range, bool) {
	if x.Kind != api.EArray || len(x.L) == 0 {
		return nil, false
	}
	out := make([]api.Range, len(x.L))
	for i, r := range x.L {
		if r.Kind != api.ERange || !bounded(r.N) || !bounded(r.M) {
			return nil, false
		}
		out[i] = api.Range{Lo: r.N, Hi: r.M}
	}
	return out, true
}

func bounded(n int64) bool {
	return -api.Big <= n && n <= api.Big
}

// product is the sizes of dimensions multiplied; most, if it would be more, so that nothing goes beyond whole numbers.
func product(dims []api.Range, most int64) int64 {
	out := int64(1)
	for _, r := range dims {
		if r.Hi < r.Lo {
			return 0
		}
		out = min(most, out*(r.Hi-r.Lo+1))
	}
	return out
}
