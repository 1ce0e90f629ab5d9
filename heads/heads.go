// Package heads is about what xtors and functions are applied to. Every layer that needs the types of it shares this package, so that all of them agree.
package heads

import "chiasmus/api"

// Producers returns the types of the arguments of x that are not consumers, in order.
func Producers(x api.Xtor) []int {
	var types []int
	for _, a := range x.Args {
		if !a.Co {
			types = append(types, a.Type)
		}
	}
	return types
}

// Params returns the types of the parameters of f, in order.
func Params(f api.Fun) []int {
	var types []int
	for _, a := range f.Params {
		types = append(types, a.Type)
	}
	return types
}

// Args returns what the xtor or the function that n applies is applied to. That must exist in c; other nodes apply nothing.
func Args(c api.Core, n api.Node) []api.Arg {
	switch n.Op {
	case api.PXtor, api.CXtor:
		return c.Decls[n.Type-1].Xtors[n.N].Args
	case api.KCall:
		return c.Funs[n.N].Params
	}
	return nil
}

// Types returns the types of l, in order.
func Types(l []api.Arg) []int {
	var types []int
	for _, a := range l {
		types = append(types, a.Type)
	}
	return types
}
