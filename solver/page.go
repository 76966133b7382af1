package solver

import (
	"jigsaw/api"
	"jigsaw/out"
)

// page is what is printed, so far.
type page struct {
	text []byte
}

// put writes on.
func (p *page) put(parts ...string) {
	for _, s := range parts {
		p.text = append(p.text, s...)
	}
}

// blocks is solutions as text, in order. Where all are asked, those that are the same in what is printed are one.
func blocks(q api.Problem, o api.Options, sols [][]api.Val) []string {
	once := o.All && q.Goal == api.Satisfy
	printed := map[string]struct{}{}
	var l []string
	for _, v := range sols {
		text, _ := out.Block(q.Outs, v) // what a variable may be is of its output's kind
		if once {
			if _, twice := printed[text]; twice {
				continue
			}
			printed[text] = struct{}{}
		}
		l = append(l, text)
	}
	return l
}
