package term

import (
	"iter"

	"chiasmus/api"
)

// binding is what a term binds in one of its subterms: names of variables or, if labels is set, of labels.
type binding struct {
	names  []string
	labels bool
}

// parts ranges over the immediate subterms of t, each with what t binds in it. It is the only place that knows where names are bound, so that all traversals agree.
func parts(t api.Term) iter.Seq2[binding, api.Term] {
	return func(yield func(binding, api.Term) bool) {
		for i, s := range t.Args {
			if !yield(boundInArg(t, i), s) {
				return
			}
		}
		for _, c := range t.Clauses {
			if !yield(binding{names: c.Names}, c.Body) {
				return
			}
		}
	}
}

func boundInArg(t api.Term, i int) binding {
	switch {
	case t.Op == api.TLet && i == 1:
		return binding{names: []string{t.Name}}
	case t.Op == api.TLabel && i == 0:
		return binding{names: []string{t.Name}, labels: true}
	}
	return binding{}
}

// nodes ranges over t and all its subterms in preorder, each with its depth in t.
func nodes(t api.Term) iter.Seq2[int, api.Term] {
	return func(yield func(int, api.Term) bool) {
		walk(t, 1, yield)
	}
}

// walk reports whether it may go on: a range that was left must not be called again.
func walk(t api.Term, depth int, yield func(int, api.Term) bool) bool {
	if !yield(depth, t) {
		return false
	}
	for _, s := range parts(t) {
		if !walk(s, depth+1, yield) {
			return false
		}
	}
	return true
}

// size returns the number of nodes of t, and whether t keeps to the limits of size and depth. It stops where t does not: the rest may be huge.
func size(t api.Term) (int, bool) {
	n := 0
	for depth := range nodes(t) {
		n++
		if n > api.MaxNodes || depth > api.MaxDepth {
			return 0, false
		}
	}
	return n, true
}
