package check

import "chiasmus/api"

// visit returns the type of t, or the path from t to its first subterm, in postorder, that has none.
func (c *checker) visit(s scope, t api.Term) (typ int, path []int, ok bool) {
	var parts []int
	for i := range len(t.Args) + len(t.Clauses) {
		part, inner := c.child(s, t, i)
		partType, fault, ok := c.visit(inner, part)
		if !ok {
			return 0, append([]int{i}, fault...), false
		}
		parts = append(parts, partType)
	}
	typ, ok = c.rules[t.Op](s, t, parts)
	return typ, nil, ok
}

// child returns the child of t in position i, and its scope.
func (c *checker) child(s scope, t api.Term, i int) (api.Term, scope) {
	if i >= len(t.Args) {
		n := i - len(t.Args)
		// A destructor's signature ends in the object, which no name stands for.
		return t.Clauses[n].Body, s.bind(t.Clauses[n].Names, c.xtors[t.Type][n].args)
	}
	switch {
	case t.Op == api.TLet && i == 1:
		s.vars = s.vars.with(t.Name, t.Type)
	case t.Op == api.TLabel:
		s.labels = s.labels.with(t.Name, t.Type)
	}
	return t.Args[i], s
}
