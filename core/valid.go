package core

import (
	"slices"

	"chiasmus/api"
	"chiasmus/decl"
	"chiasmus/names"
	"chiasmus/prim"
)

func valid(c api.Core) bool {
	if decl.Check(c.Decls) != api.OK {
		return false
	}
	if len(c.Funs) < 1 || len(c.Funs) > api.MaxFuns || !distinctNames(c.Funs) {
		return false
	}
	if !isMain(c.Funs[0]) || !validSize(c.Funs) {
		return false
	}
	for _, f := range c.Funs {
		if !validFun(c, f) {
			return false
		}
	}
	return true
}

func distinctNames(l []api.CoreFun) bool {
	seen := map[string]bool{}
	for _, f := range l {
		if !names.Plain(f.Name) || seen[f.Name] {
			return false
		}
		seen[f.Name] = true
	}
	return true
}

// isMain reports whether main can be run: its inputs are integers.
func isMain(f api.CoreFun) bool {
	return !slices.ContainsFunc(f.Params, func(a api.Arg) bool { return a != api.Arg{} })
}

// validSize is asked before the bodies are looked at: what follows may take all of them to be small.
func validSize(l []api.CoreFun) bool {
	left := api.MaxCore
	for _, f := range l {
		nodes, ok := size(f.Body, left, api.MaxCoreDepth)
		if !ok {
			return false
		}
		left -= nodes
	}
	return true
}

func validFun(c api.Core, f api.CoreFun) bool {
	if len(f.Params) > api.MaxArgs {
		return false
	}
	for _, a := range f.Params {
		if !isType(c, a.Type) {
			return false
		}
	}
	b := asBranch(f)
	return binds(b, f.Params) && foldBranch(scope{}, b, checker{c}.sort).body == command
}

// checker finds nodes that are not valid.
type checker struct {
	api.Core
}

// sort returns the sort of a node. It is wrong if that of a child is not the required one, too.
func (c checker) sort(f folded[sort]) sort {
	s := shapeOf(f.Op)
	if !s.n && f.N != 0 || !s.typ && f.Type != 0 || !c.refers(f) || !c.fits(f, s) {
		return wrong
	}
	return s.sort
}

// refers reports whether that exists to which N and Type refer.
func (c checker) refers(f folded[sort]) bool {
	switch f.Op {
	case api.PVar, api.CVar:
		return f.by != nil
	case api.PXtor:
		return c.declares(f.Type, false) && isIndex(f.N, len(c.xtors(f.Type)))
	case api.CXtor:
		return c.declares(f.Type, true) && isIndex(f.N, len(c.xtors(f.Type)))
	case api.PMu, api.CMu:
		return isNumber(f.N) && isType(c.Core, f.Type)
	case api.PMatch:
		return c.declares(f.Type, true)
	case api.CMatch:
		return c.declares(f.Type, false)
	case api.KCut:
		return isType(c.Core, f.Type)
	case api.KPrim:
		return prim.Sign(f.N) != ""
	case api.KCall:
		return isIndex(f.N, len(c.Funs))
	}
	return true
}

// fits reports whether a node with the shape s has the Args and Branches that are required.
func (c checker) fits(f folded[sort], s shape) bool {
	args := s.args
	switch f.Op {
	case api.PXtor, api.CXtor:
		args = sortsOf(c.xtors(f.Type)[f.N].Args)
	case api.KCall:
		args = sortsOf(c.Funs[f.N].Params)
	}
	var xtors []api.Xtor
	if s.branches {
		xtors = c.xtors(f.Type)
	}
	// The Args of a leaf are not folded, but they are too many, too.
	if len(f.Args) != len(args) || !slices.Equal(f.args, args) || len(f.Branches) != len(xtors) {
		return false
	}
	for i, x := range xtors {
		if !binds(f.Branches[i], x.Args) || f.branches[i].body != command {
			return false
		}
	}
	return true
}

// binds reports whether b binds a variable for each of args.
func binds(b api.Branch, args []api.Arg) bool {
	if len(b.Vars) != len(args) || len(b.Co) != len(args) {
		return false
	}
	seen := map[variable]bool{}
	for i, x := range boundIn(b) {
		if b.Co[i] != args[i].Co || !isNumber(x.n) || seen[x] {
			return false
		}
		seen[x] = true
	}
	return true
}

func (c checker) xtors(typ int) []api.Xtor {
	return c.Decls[typ-1].Xtors
}

// declares reports whether typ is a declared codata type, or a declared data type, as codata says.
func (c checker) declares(typ int, codata bool) bool {
	return isIndex(typ-1, len(c.Decls)) && c.Decls[typ-1].Codata == codata
}

func isType(c api.Core, typ int) bool {
	return 0 <= typ && typ <= len(c.Decls)
}

func isNumber(n int) bool {
	return 0 <= n && n <= api.MaxVar
}

func isIndex(i, length int) bool {
	return 0 <= i && i < length
}
