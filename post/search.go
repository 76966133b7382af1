package post

import (
	"jigsaw/api"
	"jigsaw/check"
)

// searches collects the phases that annotations of searches say.
type searches struct {
	env     *check.Env
	selects map[string]int
	values  map[string]int
	phases  []api.Phase
}

// selectors is the selectors of variables, by their names.
func selectors() map[string]int {
	return map[string]int{
		"input_order":     api.VInput,
		"first_fail":      api.VFirst,
		"anti_first_fail": api.VAnti,
		"smallest":        api.VLeast,
		"largest":         api.VMost,
		"random":          api.VRandom,
	}
}

// valueSelectors is the selectors of values, by their names.
func valueSelectors() map[string]int {
	return map[string]int{
		"indomain":               api.WMin,
		"indomain_min":           api.WMin,
		"indomain_max":           api.WMax,
		"indomain_median":        api.WMedian,
		"indomain_split":         api.WSplit,
		"indomain_reverse_split": api.WBack,
		"indomain_random":        api.WRandom,
	}
}

// take collects the phases of annotations, in order. Level is how deep a seq_search among them stands, 1 the outermost.
func (s *searches) take(l []api.Expr, level int) error {
	for _, a := range l {
		if err := s.takeOne(a, level); err != nil {
			return err
		}
	}
	return nil
}

// takeOne collects the phases of one annotation. One that is neither a call nor a name of a search says nothing; a name has no arguments.
func (s *searches) takeOne(a api.Expr, level int) error {
	var args []api.Expr
	switch a.Kind {
	case api.ECall:
		args = a.L
	case api.EName:
	default:
		return nil
	}
	switch a.Name {
	case "int_search":
		return s.phase(args, "aI")
	case "bool_search":
		return s.phase(args, "aB")
	case "set_search":
		return s.phase(args, "aS")
	case "seq_search":
		return s.within(args, level)
	}
	return nil
}

// within collects the phases of a seq_search's argument.
func (s *searches) within(args []api.Expr, level int) error {
	switch {
	case len(args) != 1 || args[0].Kind != api.EArray:
		return errType
	case level > api.MaxNest:
		return errDeep
	}
	return s.take(args[0].L, level+1)
}

// phase collects the phase of a search's arguments, the first of which is an array of that form.
func (s *searches) phase(args []api.Expr, form string) error {
	if len(args) != 4 {
		return errType
	}
	vars, e := s.env.Arg(args[0], form)
	if e != api.OK {
		return errType
	}
	first, ok := selected(s.selects, args[1])
	second, too := selected(s.values, args[2])
	if !ok || !too {
		return errType
	}
	p := api.Phase{Select: first, Value: second}
	for _, t := range vars.L {
		if t.Var >= 0 {
			p.Vars = append(p.Vars, t.Var)
		}
	}
	s.phases = append(s.phases, p)
	return nil
}

// selected is the selector of an expression, which must be a name.
func selected(by map[string]int, x api.Expr) (int, bool) {
	n, ok := by[x.Name]
	return n, ok && x.Kind == api.EName
}
