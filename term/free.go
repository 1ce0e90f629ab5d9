package term

import (
	"maps"
	"slices"

	"chiasmus/api"
)

// tally counts the enclosing binders of each name. Terms of any depth may be searched, for which a map that is copied at each binder would grow too large.
type tally struct {
	bound map[string]int
	free  map[string]bool
}

func newTally() tally {
	return tally{bound: map[string]int{}, free: map[string]bool{}}
}

func (c tally) use(name string) {
	if c.bound[name] == 0 {
		c.free[name] = true
	}
}

func (c tally) enter(names []string) {
	for _, s := range names {
		c.bound[s]++
	}
}

func (c tally) leave(names []string) {
	for _, s := range names {
		c.bound[s]--
	}
}

func (c tally) sorted() []string {
	return slices.Sorted(maps.Keys(c.free))
}

// search finds the free names of a term.
type search struct {
	vars, labels tally
}

func (s search) visit(t api.Term) {
	switch t.Op {
	case api.TVar:
		s.vars.use(t.Name)
	case api.TGoto:
		s.labels.use(t.Name)
	}
	for b, part := range parts(t) {
		c := s.vars
		if b.labels {
			c = s.labels
		}
		c.enter(b.names)
		s.visit(part)
		c.leave(b.names)
	}
}
