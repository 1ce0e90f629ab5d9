package core

import (
	"slices"

	"chiasmus/api"
	"chiasmus/decl"
	"chiasmus/node"
)

// standard returns the node among those that are equivalent to n that has the numbers of a renaming: they depend only on the free variables and on where variables occur.
func standard(n api.Node) api.Node {
	taken := map[node.Variable]bool{}
	for x := range occurrences(n) {
		taken[x] = true
	}
	return renamed(n, nil, taken)
}

// identical compares what is not ignored, including the numbers of bound variables. It takes leaves to have no children: a renaming leaves those out.
func identical(a, b api.Node) bool {
	n, typ := node.Uses(a.Op)
	if a.Op != b.Op || n && a.N != b.N || typ && a.Type != b.Type {
		return false
	}
	return slices.EqualFunc(a.Args, b.Args, identical) && slices.EqualFunc(a.Branches, b.Branches, identicalBranches)
}

func identicalBranches(a, b api.Branch) bool {
	return slices.Equal(node.BoundIn(a), node.BoundIn(b)) && identical(a.Body, b.Body)
}

// sameCore takes both programs to be valid.
func sameCore(a, b api.Core) bool {
	// The names in them are distinct, so the strings of different declarations differ.
	s, _ := decl.String(a.Decls)
	t, _ := decl.String(b.Decls)
	return s == t && slices.EqualFunc(a.Funs, b.Funs, sameFun)
}

func sameFun(f, g api.CoreFun) bool {
	return f.Name == g.Name && slices.Equal(f.Params, g.Params) && Same(node.Closed(f), node.Closed(g))
}
