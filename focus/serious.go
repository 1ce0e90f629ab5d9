package focus

import (
	"slices"

	"chiasmus/api"
	"chiasmus/decl"
	"chiasmus/node"
)

// polarities tells for each type whether it is positive.
type polarities []bool

// newPolarities takes the declarations to be valid.
func newPolarities(l []api.Decl) polarities {
	var out polarities
	for typ := range len(l) + 1 {
		positive, _ := decl.Positive(l, typ)
		out = append(out, positive)
	}
	return out
}

// runs reports whether n, as an argument, is serious by itself: its command must run before there is a value. Every other serious argument is one because such a node is an argument somewhere in it. The type that is required of an argument of a well-typed program is its own.
func (p polarities) runs(n api.Node) bool {
	switch n.Op {
	case api.PMu:
		return p[n.Type]
	case api.CMu:
		return !p[n.Type]
	}
	return false
}

// hasSerious reports whether a node has a serious argument, or one of its children has. What a cut passes are no arguments, but those Args of other nodes that are none never run: they are commands, and consumers of integers.
func (p polarities) hasSerious(f node.Folded[bool]) bool {
	if slices.Contains(f.FoldedArgs, true) {
		return true
	}
	for _, b := range f.FoldedBranches {
		if b.Body {
			return true
		}
	}
	return f.Op != api.KCut && slices.ContainsFunc(f.Args, p.runs)
}
