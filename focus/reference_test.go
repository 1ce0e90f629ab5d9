package focus_test

import (
	"chiasmus/api"
	"chiasmus/heads"
)

// reference focuses as the chapter says it: a command is changed in place, until it has no serious arguments.
type reference struct {
	core  api.Core
	count map[bool]int // how many producers, and how many consumers, it has named
}

// argument is a node in the place of an argument, and what is required there.
type argument struct {
	at *api.Node
	api.Arg
}

// arguments returns the arguments of a node.
func (r *reference) arguments(n *api.Node) []argument {
	var required []api.Arg
	switch n.Op {
	case api.PXtor, api.CXtor, api.KCall:
		required = heads.Args(r.core, *n)
	case api.KPrim:
		required = make([]api.Arg, 2)
	case api.KIfz, api.KEmit, api.KDone:
		required = make([]api.Arg, 1)
	}
	var out []argument
	for i, a := range required {
		out = append(out, argument{&n.Args[i], a})
	}
	return out
}

func (r *reference) serious(a argument) bool {
	negative := a.Type > 0 && r.core.Decls[a.Type-1].Codata
	if negative != a.Co {
		return false
	}
	switch a.at.Op {
	case api.PMu, api.CMu:
		return true
	case api.PXtor, api.CXtor:
		return len(r.named(a.at)) > 0
	}
	return false
}

// named returns what is to be named in the arguments of n, from left to right.
func (r *reference) named(n *api.Node) []argument {
	var out []argument
	for _, a := range r.arguments(n) {
		switch {
		case !r.serious(a):
		case a.at.Op == api.PMu || a.at.Op == api.CMu:
			out = append(out, a)
		default:
			out = append(out, r.named(a.at)...)
		}
	}
	return out
}

// focus focuses all commands in n, and then n if it is one.
func (r *reference) focus(n *api.Node) {
	for _, child := range children(n) {
		r.focus(child)
	}
	if n.Op < api.KCut {
		return
	}
	l := r.named(n)
	if n.Op == api.KCut {
		l = append(r.named(&n.Args[0]), r.named(&n.Args[1])...)
	}
	k := *n
	for i := len(l) - 1; i >= 0; i-- {
		k = r.name(l[i], k)
	}
	*n = k
}

// name replaces an argument in k by a new variable, and passes it to k.
func (r *reference) name(a argument, k api.Node) api.Node {
	serious := *a.at
	r.count[a.Co]++
	x := 100 + r.count[a.Co]
	if a.Co {
		*a.at = api.Node{Op: api.CVar, N: x}
		return cut(a.Type, api.Node{Op: api.PMu, N: x, Type: a.Type, Args: []api.Node{k}}, serious)
	}
	*a.at = api.Node{Op: api.PVar, N: x}
	return cut(a.Type, serious, api.Node{Op: api.CMu, N: x, Type: a.Type, Args: []api.Node{k}})
}

func children(n *api.Node) []*api.Node {
	var out []*api.Node
	for i := range n.Args {
		out = append(out, &n.Args[i])
	}
	for i := range n.Branches {
		out = append(out, &n.Branches[i].Body)
	}
	return out
}

// anySerious reports whether any argument in n is serious.
func (r *reference) anySerious(n *api.Node) bool {
	for _, a := range r.arguments(n) {
		if r.serious(a) {
			return true
		}
	}
	for _, child := range children(n) {
		if r.anySerious(child) {
			return true
		}
	}
	return false
}

// focusedByReference focuses the bodies of c in place, and returns how many producers and how many consumers it has named. The numbers after 100 must be those of no variables of c.
func focusedByReference(c api.Core) (producers, consumers int) {
	r := reference{c, map[bool]int{}}
	for i := range c.Funs {
		r.focus(&c.Funs[i].Body)
	}
	return r.count[false], r.count[true]
}

func focusedByDefinition(c api.Core) bool {
	r := reference{core: c}
	for i := range c.Funs {
		if r.anySerious(&c.Funs[i].Body) {
			return false
		}
	}
	return true
}
