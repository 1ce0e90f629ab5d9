package direct

// entry is a name with what an environment maps it to.
type entry[T any] struct {
	name string
	to   T
}

// chain is an entry, followed by those that were added before it. What is added to one chain in several ways shares it as a tail.
type chain[T any] struct {
	entry[T]
	outer *chain[T]
}

// with returns the chain with more entries; there is an element of to for each name.
func (c *chain[T]) with(names []string, to []T) *chain[T] {
	for i, name := range names {
		c = &chain[T]{entry[T]{name, to[i]}, c}
	}
	return c
}

// find meets inner entries first, so that they shadow outer ones. In a valid program it finds every name that is used.
func (c *chain[T]) find(name string) T {
	for c.name != name {
		c = c.outer
	}
	return c.to
}

// env is an environment. Variables and labels have separate scopes.
type env struct {
	vars   *chain[item]
	labels *chain[continuation]
}

func (e env) bind(names []string, to []item) env {
	e.vars = e.vars.with(names, to)
	return e
}

func (e env) mark(label string, to continuation) env {
	e.labels = e.labels.with([]string{label}, []continuation{to})
	return e
}
