package family

import (
	"slices"
	"strings"

	"jigsaw/api"
	"jigsaw/cons"
)

// Relation is what a constraint says, but for a truth that may hang on it.
type Relation interface {
	// Holds: does it hold of values? ErrOver, where it can not be said.
	Holds(v []api.Val) (bool, api.Errno)
	// Enforce takes away values with which it can not hold; of so false, values with which it can not but hold.
	Enforce(d *Doms, so bool)
}

// Hanging is how a truth hangs on a relation.
type Hanging int

const (
	Free Hanging = iota // there is no such truth: the relation holds
	Reif                // it is 1 just if the relation holds
	Imp                 // if it is 1, the relation holds
)

// Hung is a relation, and the truth that hangs on it.
type Hung struct {
	Relation
	How   Hanging
	Truth api.Term // none of Free
}

// Hang reads a constraint whose name says by its ending how a truth, its last argument, hangs on the rest. The rest is read as a constraint without that ending and that argument.
func Hang(c api.Con, read func(rest api.Con) Relation) Hung {
	how := Free
	name, found := strings.CutSuffix(c.Name, "_reif")
	if found {
		how = Reif
	} else if name, found = strings.CutSuffix(c.Name, "_imp"); found {
		how = Imp
	}
	if how == Free {
		return Hung{Relation: read(c)}
	}
	last := len(c.Args) - 1
	return Hung{read(api.Con{Name: name, Args: c.Args[:last]}), how, c.Args[last].L[0]}
}

// Holds: is the truth, if there is one, as it should be by the relation?
func (h Hung) Holds(v []api.Val) (bool, api.Errno) {
	rest, e := h.Relation.Holds(v)
	if h.How == Free || e != api.OK {
		return rest, e
	}
	b, _ := cons.Of(h.Truth, v)
	if h.How == Reif {
		return rest == (b.N == 1), api.OK
	}
	return rest || b.N == 0, api.OK
}

// Narrow takes away what the relation can not be: of a truth that is not known yet what fails when it is tried, of the rest what can not be with a truth that is known.
func (h Hung) Narrow(d *Doms) {
	if h.How == Free {
		h.Enforce(d, true)
		return
	}
	if lo, hi := d.Bounds(h.Truth); lo < hi {
		for _, b := range [...]int64{lo, hi} {
			trial := &Doms{l: slices.Clone(d.l)}
			if h.suppose(trial, b); trial.failed {
				d.Drop(h.Truth, b)
			}
		}
	}
	if lo, hi := d.Bounds(h.Truth); lo == hi {
		h.suppose(d, lo)
	}
}

// suppose takes away what can not be with that truth.
func (h Hung) suppose(d *Doms, b int64) {
	d.Cut(h.Truth, b, b)
	if b == 1 || h.How == Reif {
		h.Enforce(d, b == 1)
	}
}
