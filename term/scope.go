package term

import (
	"maps"
)

// nameSet is a set of names in scope.
type nameSet map[string]bool

func newNameSet(names []string) nameSet {
	s := nameSet{}
	for _, name := range names {
		s[name] = true
	}
	return s
}

// with returns a copy, so that the other branches of a term do not see the names.
func (s nameSet) with(names []string) nameSet {
	out := newNameSet(names)
	maps.Copy(out, s)
	return out
}

// scope is what is in scope at a place in a term. There may be any number of given names, so only those that the term itself binds are copied.
type scope struct {
	givenVars, givenLabels nameSet
	boundVars, boundLabels nameSet
}

func newScope(vars, labels []string) scope {
	return scope{givenVars: newNameSet(vars), givenLabels: newNameSet(labels)}
}

func (s scope) hasVar(name string) bool {
	return s.givenVars[name] || s.boundVars[name]
}

func (s scope) hasLabel(name string) bool {
	return s.givenLabels[name] || s.boundLabels[name]
}

// inside returns the scope of a subterm in which b is bound.
func (s scope) inside(b binding) scope {
	switch {
	case len(b.names) == 0:
		return s
	case b.labels:
		s.boundLabels = s.boundLabels.with(b.names)
	default:
		s.boundVars = s.boundVars.with(b.names)
	}
	return s
}
