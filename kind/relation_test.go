package kind_test

import (
	"maps"

	"chiasmus/api"
	"chiasmus/sample"
)

// context has the types of the variables in scope. Unlike the checker it is never changed: each place in a node has its own.
type context struct {
	core api.Core
	vars map[api.Arg]int // Type is the number of the variable here
}

func contextOf(c api.Core, l []sample.Variable) context {
	return context{c, nil}.plus(l...)
}

func (g context) plus(l ...sample.Variable) context {
	out := context{g.core, map[api.Arg]int{}}
	maps.Copy(out.vars, g.vars)
	for _, x := range l {
		out.vars[api.Arg{Type: x.N, Co: x.Co}] = x.Type
	}
	return out
}

// branch returns the context of the body of b.
func (g context) branch(b api.Branch, args []api.Arg) context {
	for i, arg := range args {
		g = g.plus(sample.Variable{N: b.Vars[i], Arg: arg})
	}
	return g
}

// has reports whether a valid producer or consumer has the type want by one of the rules of the chapter. Unlike the checker it starts from the type of the whole node: each rule then says which types the children must have.
func (g context) has(n api.Node, want int) bool {
	switch n.Op {
	case api.PVar, api.CVar:
		return g.vars[api.Arg{Type: n.N, Co: n.Op == api.CVar}] == want
	case api.PInt:
		return want == 0
	case api.PXtor, api.CXtor:
		return want == n.Type && g.all(n.Args, g.core.Decls[n.Type-1].Xtors[n.N].Args)
	case api.PMu:
		return want == n.Type && g.plus(sample.Variable{N: n.N, Arg: api.Arg{Type: n.Type, Co: true}}).runs(n.Args[0])
	case api.CMu:
		return want == n.Type && g.plus(sample.Variable{N: n.N, Arg: api.Arg{Type: n.Type}}).runs(n.Args[0])
	}
	for i, x := range g.core.Decls[n.Type-1].Xtors {
		if !g.branch(n.Branches[i], x.Args).runs(n.Branches[i].Body) {
			return false
		}
	}
	return want == n.Type
}

func (g context) all(l []api.Node, args []api.Arg) bool {
	for i, n := range l {
		if !g.has(n, args[i].Type) {
			return false
		}
	}
	return true
}

// runs reports whether a valid command is well-typed.
func (g context) runs(k api.Node) bool {
	switch k.Op {
	case api.KCut:
		return g.has(k.Args[0], k.Type) && g.has(k.Args[1], k.Type)
	case api.KPrim:
		return g.has(k.Args[0], 0) && g.has(k.Args[1], 0) && g.has(k.Args[2], 0)
	case api.KIfz:
		return g.has(k.Args[0], 0) && g.runs(k.Args[1]) && g.runs(k.Args[2])
	case api.KEmit:
		return g.has(k.Args[0], 0) && g.runs(k.Args[1])
	case api.KCall:
		return g.all(k.Args, g.core.Funs[k.N].Params)
	}
	return g.has(k.Args[0], 0)
}

// typeOf tries all types; 0 and ErrKind if n has none of them.
func (g context) typeOf(n api.Node) (int, api.Errno) {
	if n.Op >= api.KCut {
		if g.runs(n) {
			return 0, api.OK
		}
		return 0, api.ErrKind
	}
	for typ := range len(g.core.Decls) + 1 {
		if g.has(n, typ) {
			return typ, api.OK
		}
	}
	return 0, api.ErrKind
}
