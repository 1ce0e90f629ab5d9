package focus

import (
	"slices"

	"chiasmus/api"
	"chiasmus/node"
)

// focuser focuses the body of one function. It gives new numbers to all variables in it, so that those for the arguments that it names are not in use already.
type focuser struct {
	node.Counter
	node.Polarities
}

func newFocuser(p node.Polarities) *focuser {
	return &focuser{Polarities: p}
}

func (f *focuser) fun(g api.CoreFun) api.CoreFun {
	b := node.Fold(node.Scope{}, node.Closed(g), f.node).Branches[0]
	return api.CoreFun{Name: g.Name, Params: slices.Clone(g.Params), Vars: b.Vars, Body: b.Body}
}

// node returns what becomes of a node. All commands in its children are focused already.
func (f *focuser) node(n node.Folded[api.Node]) api.Node {
	out := node.Rebuilt(n, f.numbers)
	if n.By != nil {
		out.N = f.number(n.By)
	}
	switch out.Op {
	case api.KCut:
		return f.cut(out)
	case api.KPrim, api.KIfz, api.KEmit, api.KCall, api.KDone:
		return f.named(func(values []api.Node) api.Node {
			out.Args = values
			return out
		}, out.Args...)
	}
	return out
}

// cut focuses a cut: only the arguments of what it passes may be serious.
func (f *focuser) cut(k api.Node) api.Node {
	return f.inside(k.Args[0], func(p api.Node) api.Node {
		return f.inside(k.Args[1], func(c api.Node) api.Node {
			return node.Cut(k.Type, p, c)
		})
	})
}

// named names what is serious in args, from left to right. In the scope of the names is the command that rest makes of the values that args have become. Some of args may be no arguments if they never run.
func (f *focuser) named(rest func(values []api.Node) api.Node, args ...api.Node) api.Node {
	if len(args) == 0 {
		return rest(nil)
	}
	return f.value(args[0], func(first api.Node) api.Node {
		return f.named(func(others []api.Node) api.Node {
			return rest(append([]api.Node{first}, others...))
		}, args[1:]...)
	})
}

// value names what is serious in an argument, or the argument itself.
func (f *focuser) value(n api.Node, rest func(value api.Node) api.Node) api.Node {
	if !f.Runs(n) {
		return f.inside(n, rest)
	}
	if n.Op == api.PMu {
		x := f.Fresh(node.Producer)
		return node.Cut(n.Type, n, node.Binding(x, n.Type, rest(x.Node())))
	}
	a := f.Fresh(node.Consumer)
	return node.Cut(n.Type, node.Binding(a, n.Type, rest(a.Node())), n)
}

// inside names the serious arguments of n, if it is an xtor.
func (f *focuser) inside(n api.Node, rest func(n api.Node) api.Node) api.Node {
	if n.Op != api.PXtor && n.Op != api.CXtor {
		return rest(n)
	}
	return f.named(func(values []api.Node) api.Node {
		n.Args = values
		return rest(n)
	}, n.Args...)
}

// numbers returns the new numbers of what a node binds.
func (f *focuser) numbers(own []node.Binder) []int {
	var out []int
	for i := range own {
		out = append(out, f.number(&own[i]))
	}
	return out
}

// number returns the new number of a variable, the same one each time. A valid program binds fewer variables than there are numbers.
func (f *focuser) number(b *node.Binder) int {
	if !b.Used {
		b.Used, b.Number = true, f.Fresh(b.Sort).N
	}
	return b.Number
}
