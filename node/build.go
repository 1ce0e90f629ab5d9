package node

import "chiasmus/api"

// Node returns an occurrence of x.
func (x Variable) Node() api.Node {
	if x.Sort == Consumer {
		return api.Node{Op: api.CVar, N: x.N}
	}
	return api.Node{Op: api.PVar, N: x.N}
}

// Binding returns the node that binds x in k: a mu if x is a consumer variable, a comu otherwise.
func Binding(x Variable, typ int, k api.Node) api.Node {
	op := api.CMu
	if x.Sort == Consumer {
		op = api.PMu
	}
	return api.Node{Op: op, N: x.N, Type: typ, Args: []api.Node{k}}
}

// Cut returns the command that passes p to c.
func Cut(typ int, p, c api.Node) api.Node {
	return api.Node{Op: api.KCut, Type: typ, Args: []api.Node{p, c}}
}
