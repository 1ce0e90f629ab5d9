package node

import (
	"slices"

	"chiasmus/api"
	"chiasmus/heads"
	"chiasmus/prim"
)

// In returns the sort of n, if it is a valid node of c in the scope of the given variables, and Wrong otherwise. Of c only the declarations, which must be valid, and the heads of the functions count. All of n is looked at, so its size should be known.
func In(c api.Core, scope []Variable, n api.Node) Sort {
	s := Scope{}
	s.enter(scope)
	return Fold(s, n, checker{c}.sort)
}

// checker finds nodes that are not valid.
type checker struct {
	api.Core
}

// sort returns the sort of a node. It is Wrong if that of a child is not the required one, too.
func (c checker) sort(f Folded[Sort]) Sort {
	s := shapeOf(f.Op)
	if !s.n && f.N != 0 || !s.typ && f.Type != 0 || !c.refers(f) || !c.fits(f, s) {
		return Wrong
	}
	return s.sort
}

// refers reports whether that exists to which N and Type refer.
func (c checker) refers(f Folded[Sort]) bool {
	switch f.Op {
	case api.PVar, api.CVar:
		// A scope that is given may have any numbers.
		return isNumber(f.N) && f.By != nil
	case api.PXtor:
		return c.declares(f.Type, false) && isIndex(f.N, len(c.xtors(f.Type)))
	case api.CXtor:
		return c.declares(f.Type, true) && isIndex(f.N, len(c.xtors(f.Type)))
	case api.PMu, api.CMu:
		return isNumber(f.N) && IsType(c.Core, f.Type)
	case api.PMatch:
		return c.declares(f.Type, true)
	case api.CMatch:
		return c.declares(f.Type, false)
	case api.KCut:
		return IsType(c.Core, f.Type)
	case api.KPrim:
		return prim.Sign(f.N) != ""
	case api.KCall:
		return isIndex(f.N, len(c.Funs))
	}
	return true
}

// fits reports whether a node with the shape s has the Args and Branches that are required.
func (c checker) fits(f Folded[Sort], s shape) bool {
	args := s.args
	switch f.Op {
	case api.PXtor, api.CXtor, api.KCall:
		args = sortsOf(heads.Args(c.Core, f.Node))
	}
	var xtors []api.Xtor
	if s.branches {
		xtors = c.xtors(f.Type)
	}
	// The Args of a leaf are not folded, but they are too many, too.
	if len(f.Args) != len(args) || !slices.Equal(f.FoldedArgs, args) || len(f.Branches) != len(xtors) {
		return false
	}
	for i, x := range xtors {
		if !Binds(f.Branches[i], x.Args) || f.FoldedBranches[i].Body != Command {
			return false
		}
	}
	return true
}

// Binds reports whether b binds a variable for each of args.
func Binds(b api.Branch, args []api.Arg) bool {
	if len(b.Vars) != len(args) || len(b.Co) != len(args) {
		return false
	}
	seen := map[Variable]bool{}
	for i, x := range BoundIn(b) {
		if b.Co[i] != args[i].Co || !isNumber(x.N) || seen[x] {
			return false
		}
		seen[x] = true
	}
	return true
}

func (c checker) xtors(typ int) []api.Xtor {
	return c.Decls[typ-1].Xtors
}

// declares reports whether typ is a declared codata type, or a declared data type, as codata says.
func (c checker) declares(typ int, codata bool) bool {
	return isIndex(typ-1, len(c.Decls)) && c.Decls[typ-1].Codata == codata
}

// IsType reports whether typ is a type of c.
func IsType(c api.Core, typ int) bool {
	return 0 <= typ && typ <= len(c.Decls)
}

func isNumber(n int) bool {
	return 0 <= n && n <= api.MaxVar
}

func isIndex(i, length int) bool {
	return 0 <= i && i < length
}
