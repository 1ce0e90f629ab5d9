package check_test

import (
	"maps"

	"chiasmus/api"
)

// types are the types of what is in scope.
type types struct {
	vars, labels map[string]int
}

func typesOf(vars, labels []api.Param) types {
	return types{map[string]int{}, map[string]int{}}.plus(vars, labels)
}

func (g types) plus(vars, labels []api.Param) types {
	out := types{maps.Clone(g.vars), maps.Clone(g.labels)}
	for _, a := range vars {
		out.vars[a.Name] = a.Type
	}
	for _, a := range labels {
		out.labels[a.Name] = a.Type
	}
	return out
}

// child is a child of a term, with the types of what is in scope there.
type child struct {
	t api.Term
	g types
}

func children(p api.Prog, g types, t api.Term) []child {
	var out []child
	for i, u := range t.Args {
		switch {
		case t.Op == api.TLet && i == 1:
			out = append(out, child{u, g.plus([]api.Param{{Name: t.Name, Type: t.Type}}, nil)})
		case t.Op == api.TLabel:
			out = append(out, child{u, g.plus(nil, []api.Param{{Name: t.Name, Type: t.Type}})})
		default:
			out = append(out, child{u, g})
		}
	}
	for n, c := range t.Clauses {
		var bound []api.Param
		for i, name := range c.Names {
			bound = append(bound, api.Param{Name: name, Type: p.Decls[t.Type-1].Xtors[n].Args[i].Type})
		}
		out = append(out, child{c.Body, g.plus(bound, nil)})
	}
	return out
}

// has reports whether t has the type want by one of the rules of the chapter. Unlike the checker it starts from the type of the whole term: each rule then says which types the children must have.
func has(p api.Prog, g types, t api.Term, want int) bool {
	wanted, ok := childTypes(p, g, t, want)
	if !ok {
		return false
	}
	for i, c := range children(p, g, t) {
		if !has(p, c.g, c.t, wanted[i]) {
			return false
		}
	}
	return true
}

func childTypes(p api.Prog, g types, t api.Term, want int) (l []int, ok bool) {
	switch t.Op {
	case api.TVar:
		return nil, g.vars[t.Name] == want
	case api.TInt:
		return nil, want == 0
	case api.TPrim:
		return []int{0, 0}, want == 0
	case api.TIfz:
		return []int{0, want, want}, true
	case api.TCon:
		return argTypes(p.Decls[t.Type-1].Xtors[t.N].Args), want == t.Type
	case api.TCase:
		l = []int{t.Type}
		for range t.Clauses {
			l = append(l, want)
		}
		return l, true
	case api.TDtor:
		l = argTypes(p.Decls[t.Type-1].Xtors[t.N].Args)
		result := l[len(l)-1]
		l[len(l)-1] = t.Type
		return l, want == result
	case api.TCocase:
		for n := range t.Clauses {
			of := argTypes(p.Decls[t.Type-1].Xtors[n].Args)
			l = append(l, of[len(of)-1])
		}
		return l, want == t.Type
	case api.TLet:
		return []int{t.Type, want}, true
	case api.TCall:
		for _, a := range p.Funs[t.N].Params {
			l = append(l, a.Type)
		}
		return l, want == p.Funs[t.N].Result
	case api.TEmit:
		return []int{0, want}, true
	case api.TLabel:
		return []int{t.Type}, want == t.Type
	}
	return []int{g.labels[t.Name]}, want == t.Type
}

func argTypes(l []api.Arg) []int {
	var out []int
	for _, a := range l {
		out = append(out, a.Type)
	}
	return out
}

// typeOf tries all types; none and ErrType if t has none of them.
func typeOf(p api.Prog, g types, t api.Term) (int, api.Errno) {
	for typ := range len(p.Decls) + 1 {
		if has(p, g, t, typ) {
			return typ, api.OK
		}
	}
	return 0, api.ErrType
}

// faultOf returns the path to the first subterm of t in postorder that has no type.
func faultOf(p api.Prog, g types, t api.Term) (path []int, found bool) {
	for i, c := range children(p, g, t) {
		if path, found := faultOf(p, c.g, c.t); found {
			return append([]int{i}, path...), true
		}
	}
	_, e := typeOf(p, g, t)
	return nil, e != api.OK
}
