package node

import (
	"slices"

	"chiasmus/api"
)

// Counter hands out variables. No two of the same sort have the same number, so none of them hides another one.
type Counter struct {
	used [2]int
}

// Fresh returns a variable that was not handed out before.
func (c *Counter) Fresh(s Sort) Variable {
	x := Variable{Sort: s, N: c.used[s]}
	c.used[s]++
	return x
}

// Node returns an occurrence of x.
func (x Variable) Node() api.Node {
	if x.Sort == Consumer {
		return api.Node{Op: api.CVar, N: x.N}
	}
	return api.Node{Op: api.PVar, N: x.N}
}

// Binding returns the node that binds x in k: a mu if x is a consumer variable, a comu otherwise.
func Binding(x Variable, typ int, k api.Node) api.Node {
	op := api.CMu
	if x.Sort == Consumer {
		op = api.PMu
	}
	return api.Node{Op: op, N: x.N, Type: typ, Args: []api.Node{k}}
}

// Cut returns the command that passes p to c.
func Cut(typ int, p, c api.Node) api.Node {
	return api.Node{Op: api.KCut, Type: typ, Args: []api.Node{p, c}}
}

// Rebuilt returns the node of which f is shown, with what became of its children, and with new numbers for the variables that it binds. Only an occurrence of a variable remains as it is.
func Rebuilt(f Folded[api.Node], numbers func(own []Binder) []int) api.Node {
	out := api.Node{Op: f.Op, N: f.N, Type: f.Type, Args: f.FoldedArgs}
	if len(f.Own) > 0 {
		out.N = numbers(f.Own)[0]
	}
	for i, b := range f.FoldedBranches {
		out.Branches = append(out.Branches, api.Branch{Vars: numbers(b.Own), Co: slices.Clone(f.Branches[i].Co), Body: b.Body})
	}
	return out
}
