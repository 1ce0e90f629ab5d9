package check

import "chiasmus/api"

// binding is a variable or a label with its type, followed by those that were bound before it. The branches of a term share what was bound above them.
type binding struct {
	api.Param
	outer *binding
}

func (b *binding) with(name string, typ int) *binding {
	return &binding{Param: api.Param{Name: name, Type: typ}, outer: b}
}

// find meets inner bindings first, so that they shadow outer ones.
func (b *binding) find(name string) (typ int, ok bool) {
	for ; b != nil; b = b.outer {
		if b.Name == name {
			return b.Type, true
		}
	}
	return 0, false
}

func linked(l []api.Param) *binding {
	var b *binding
	for _, a := range l {
		b = b.with(a.Name, a.Type)
	}
	return b
}

// given links only the names of l that a term uses: there may be any number of others, which would make each search long.
func given(l []api.Param, used []string) *binding {
	last := map[string]int{}
	for _, a := range l {
		last[a.Name] = a.Type
	}
	var b *binding
	for _, name := range used {
		b = b.with(name, last[name])
	}
	return b
}

// scope is what is in scope at a place in a term.
type scope struct {
	vars, labels *binding
}

// bind returns the scope with more variables; there is a type for each name.
func (s scope) bind(names []string, types []int) scope {
	for i, name := range names {
		s.vars = s.vars.with(name, types[i])
	}
	return s
}
