package node

import (
	"iter"
	"slices"

	"chiasmus/api"
)

// Binder is a place where a variable is bound. Used and Number are zero at first; who numbers the variables anew may keep there what has become of this one.
type Binder struct {
	Variable
	Used   bool
	Number int
}

// Scope knows what binds the variables at a place in a node. Those that are free have no binder, or nil.
type Scope map[Variable]*Binder

// enter binds variables; if one of them occurs twice, the last one counts. The function that it returns goes back to what they were before.
func (s Scope) enter(l []Variable) (own []Binder, leave func()) {
	if len(l) == 0 {
		return nil, func() {}
	}
	own = make([]Binder, len(l))
	hidden := make([]*Binder, len(l))
	for i, x := range l {
		own[i].Variable = x
		hidden[i] = s[x]
		s[x] = &own[i]
	}
	return own, func() {
		for i, x := range slices.Backward(l) {
			s[x] = hidden[i]
		}
	}
}

// Folded is what a fold shows of a node: the node, and what became of its children.
type Folded[T any] struct {
	api.Node
	By             *Binder  // what binds the variable that the node is, if it is one that is bound
	Own            []Binder // what the node binds in its Args
	FoldedArgs     []T
	FoldedBranches []FoldedBranch[T]
}

// FoldedBranch is what a fold shows of a branch: what it binds, and what became of its body.
type FoldedBranch[T any] struct {
	Own  []Binder
	Body T
}

// Fold returns what up makes of n, from the leaves on. It is the only place that knows which variables are in scope where, so that all that depends on it agrees.
func Fold[T any](s Scope, n api.Node, up func(Folded[T]) T) T {
	f := Folded[T]{Node: n}
	if IsLeaf(n.Op) {
		if x, ok := Occurrence(n); ok {
			f.By = s[x]
		}
		return up(f)
	}
	own, leave := s.enter(BoundInArgs(n))
	f.Own = own
	f.FoldedArgs = slices.Grow(f.FoldedArgs, len(n.Args))
	for _, a := range n.Args {
		f.FoldedArgs = append(f.FoldedArgs, Fold(s, a, up))
	}
	leave()
	for _, b := range n.Branches {
		f.FoldedBranches = append(f.FoldedBranches, foldBranch(s, b, up))
	}
	return up(f)
}

func foldBranch[T any](s Scope, b api.Branch, up func(Folded[T]) T) FoldedBranch[T] {
	own, leave := s.enter(BoundIn(b))
	defer leave()
	return FoldedBranch[T]{own, Fold(s, b.Body, up)}
}

// Depths ranges over n and all its descendants in preorder, and yields their depths in n. Other than a fold it can be left early: n may be huge.
func Depths(n api.Node) iter.Seq[int] {
	return func(yield func(int) bool) {
		descend(n, 1, yield)
	}
}

// descend reports whether it may go on: a range that was left must not be called again.
func descend(n api.Node, depth int, yield func(int) bool) bool {
	if !yield(depth) {
		return false
	}
	if IsLeaf(n.Op) {
		return true
	}
	for _, a := range n.Args {
		if !descend(a, depth+1, yield) {
			return false
		}
	}
	for _, b := range n.Branches {
		if !descend(b.Body, depth+1, yield) {
			return false
		}
	}
	return true
}

// Size returns the number of nodes of n, and whether neither it nor the depth of n is larger than these.
func Size(n api.Node, most, deepest int) (nodes int, ok bool) {
	for depth := range Depths(n) {
		nodes++
		if nodes > most || depth > deepest {
			return 0, false
		}
	}
	return nodes, true
}
