package lower

import (
	"maps"

	"chiasmus/node"
)

// label is the consumer variable for a label, and its type.
type label struct {
	node.Variable
	typ int
}

// scope knows the variables that stand for the names in scope. Scopes are not changed: a larger one is a new one.
type scope struct {
	vars   map[string]node.Variable
	labels map[string]label
}

// bind returns the scope with more variables; there is an element of xs for each name.
func (s scope) bind(names []string, xs []node.Variable) scope {
	vars := map[string]node.Variable{}
	maps.Copy(vars, s.vars)
	for i, name := range names {
		vars[name] = xs[i]
	}
	return scope{vars, s.labels}
}

func (s scope) mark(name string, a label) scope {
	labels := map[string]label{}
	maps.Copy(labels, s.labels)
	labels[name] = a
	return scope{s.vars, labels}
}
