package core

import (
	"iter"
	"slices"

	"chiasmus/api"
)

// binder is a place where a variable is bound. Its number is that of the variable in a node that is made of this one, once the variable is used there.
type binder struct {
	variable
	used   bool
	number int
}

// scope knows what binds the variables at a place in a node. Those that are free have no binder, or nil.
type scope map[variable]*binder

// enter binds variables; if one of them occurs twice, the last one counts. The function that it returns goes back to what they were before.
func (s scope) enter(l []variable) (own []binder, leave func()) {
	if len(l) == 0 {
		return nil, func() {}
	}
	own = make([]binder, len(l))
	hidden := make([]*binder, len(l))
	for i, x := range l {
		own[i].variable = x
		hidden[i] = s[x]
		s[x] = &own[i]
	}
	return own, func() {
		for i, x := range slices.Backward(l) {
			s[x] = hidden[i]
		}
	}
}

// folded is what a fold shows of a node: the node, and what became of its children.
type folded[T any] struct {
	api.Node
	by       *binder  // what binds the variable that the node is, if it is one that is bound
	own      []binder // what the node binds in its Args
	args     []T
	branches []foldedBranch[T]
}

type foldedBranch[T any] struct {
	own  []binder
	body T
}

// fold returns what up makes of n, from the leaves on. It is the only place that knows which variables are in scope where, so that all that depends on it agrees.
func fold[T any](s scope, n api.Node, up func(folded[T]) T) T {
	f := folded[T]{Node: n}
	if isLeaf(n.Op) {
		if x, ok := occurrence(n); ok {
			f.by = s[x]
		}
		return up(f)
	}
	own, leave := s.enter(boundInArgs(n))
	f.own = own
	f.args = slices.Grow(f.args, len(n.Args))
	for _, a := range n.Args {
		f.args = append(f.args, fold(s, a, up))
	}
	leave()
	for _, b := range n.Branches {
		f.branches = append(f.branches, foldBranch(s, b, up))
	}
	return up(f)
}

func foldBranch[T any](s scope, b api.Branch, up func(folded[T]) T) foldedBranch[T] {
	own, leave := s.enter(boundIn(b))
	defer leave()
	return foldedBranch[T]{own, fold(s, b.Body, up)}
}

// occurrences returns how often each variable occurs free in n.
func occurrences(n api.Node) map[variable]int {
	count := map[variable]int{}
	fold(scope{}, n, func(f folded[struct{}]) (none struct{}) {
		if x, ok := occurrence(f.Node); ok && f.by == nil {
			count[x]++
		}
		return none
	})
	return count
}

// depths ranges over n and all its descendants in preorder, and yields their depths in n. Other than a fold it can be left early: n may be huge.
func depths(n api.Node) iter.Seq[int] {
	return func(yield func(int) bool) {
		descend(n, 1, yield)
	}
}

// descend reports whether it may go on: a range that was left must not be called again.
func descend(n api.Node, depth int, yield func(int) bool) bool {
	if !yield(depth) {
		return false
	}
	if isLeaf(n.Op) {
		return true
	}
	for _, a := range n.Args {
		if !descend(a, depth+1, yield) {
			return false
		}
	}
	for _, b := range n.Branches {
		if !descend(b.Body, depth+1, yield) {
			return false
		}
	}
	return true
}

// size returns the number of nodes of n, and whether neither it nor the depth of n is larger than these.
func size(n api.Node, most, deepest int) (nodes int, ok bool) {
	for depth := range depths(n) {
		nodes++
		if nodes > most || depth > deepest {
			return 0, false
		}
	}
	return nodes, true
}
