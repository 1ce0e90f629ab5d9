package core

import (
	"slices"

	"chiasmus/api"
	"chiasmus/decl"
	"chiasmus/names"
	"chiasmus/node"
)

func valid(c api.Core) bool {
	if decl.Check(c.Decls) != api.OK {
		return false
	}
	if len(c.Funs) < 1 || len(c.Funs) > api.MaxFuns || !distinctNames(c.Funs) {
		return false
	}
	if !isMain(c.Funs[0]) || !validSize(c.Funs) {
		return false
	}
	for _, f := range c.Funs {
		if !validFun(c, f) {
			return false
		}
	}
	return true
}

func distinctNames(l []api.CoreFun) bool {
	seen := map[string]bool{}
	for _, f := range l {
		if !names.Plain(f.Name) || seen[f.Name] {
			return false
		}
		seen[f.Name] = true
	}
	return true
}

// isMain reports whether main can be run: its inputs are integers.
func isMain(f api.CoreFun) bool {
	return !slices.ContainsFunc(f.Params, func(a api.Arg) bool { return a != api.Arg{} })
}

// validSize is asked before the bodies are looked at: what follows may take all of them to be small.
func validSize(l []api.CoreFun) bool {
	left := api.MaxCore
	for _, f := range l {
		nodes, ok := node.Size(f.Body, left, api.MaxCoreDepth)
		if !ok {
			return false
		}
		left -= nodes
	}
	return true
}

func validFun(c api.Core, f api.CoreFun) bool {
	if len(f.Params) > api.MaxArgs {
		return false
	}
	for _, a := range f.Params {
		if !node.IsType(c, a.Type) {
			return false
		}
	}
	b := node.AsBranch(f)
	return node.Binds(b, f.Params) && node.In(c, node.BoundIn(b), f.Body) == node.Command
}
