package node

import (
	"slices"

	"chiasmus/api"
	"chiasmus/decl"
)

// Polarities tells for each type whether it is positive.
type Polarities []bool

// NewPolarities takes the declarations to be valid.
func NewPolarities(l []api.Decl) Polarities {
	var out Polarities
	for typ := range len(l) + 1 {
		positive, _ := decl.Positive(l, typ)
		out = append(out, positive)
	}
	return out
}

// Runs reports whether n, as an argument, is serious by itself: its command must run before there is a value. Every other serious argument is one because such a node is an argument somewhere in it. The type that is required of an argument of a well-typed program is its own.
func (p Polarities) Runs(n api.Node) bool {
	switch n.Op {
	case api.PMu:
		return p[n.Type]
	case api.CMu:
		return !p[n.Type]
	}
	return false
}

// Focused reports whether no argument in n, which must be valid and well-typed, is serious.
func (p Polarities) Focused(n api.Node) bool {
	return !Fold(Scope{}, n, p.hasSerious)
}

// hasSerious reports whether a node has a serious argument, or one of its children has. What a cut passes are no arguments, but those Args of other nodes that are none never run: they are commands, and consumers of integers.
func (p Polarities) hasSerious(f Folded[bool]) bool {
	if slices.Contains(f.FoldedArgs, true) {
		return true
	}
	for _, b := range f.FoldedBranches {
		if b.Body {
			return true
		}
	}
	return f.Op != api.KCut && slices.ContainsFunc(f.Args, p.Runs)
}
