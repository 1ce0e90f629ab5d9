package core

import (
	"math"
	"slices"

	"chiasmus/api"
	"chiasmus/node"
)

// renaming makes a node anew, with other numbers for all its bound variables, and with nodes in the place of some free ones.
type renaming struct {
	by   map[node.Variable]api.Node
	nth  func(s node.Sort, i int) int // the numbers for bound variables, for each sort
	used [2]int                       // for each sort, how many of them are in use
}

// renamed returns n with replaced variables. No free variable of the result may be missing in taken.
func renamed(n api.Node, by map[node.Variable]api.Node, taken map[node.Variable]bool) api.Node {
	r := renaming{by: by, nth: untaken(taken)}
	return node.Fold(node.Scope{}, n, r.node)
}

// untaken returns a function that returns, for each i, another number that no variable of this sort in taken has. It counts up only once.
func untaken(taken map[node.Variable]bool) func(s node.Sort, i int) int {
	var next [2]int
	var found [2][]int
	return func(s node.Sort, i int) int {
		for len(found[s]) <= i {
			for taken[node.Variable{Sort: s, N: next[s]}] {
				next[s]++
			}
			found[s] = append(found[s], next[s])
			next[s]++
		}
		return found[s][i]
	}
}

func (r *renaming) node(f node.Folded[api.Node]) api.Node {
	out := node.Rebuilt(f, r.numbers)
	if x, ok := node.Occurrence(f.Node); ok {
		if f.By != nil {
			out.N = r.use(f.By)
		} else if p, ok := r.by[x]; ok {
			return copied(p)
		}
	}
	return out
}

// use returns the number of a bound variable that occurs. No two of them share a number, so none of them hides another one.
func (r *renaming) use(b *node.Binder) int {
	if !b.Used {
		b.Used = true
		b.Number = r.nth(b.Sort, r.used[b.Sort])
		r.used[b.Sort]++
	}
	return b.Number
}

// numbers returns the numbers of all variables that a node binds. Those that do not occur may share theirs with variables that occur elsewhere: there may be more of them than numbers.
func (r *renaming) numbers(own []node.Binder) []int {
	var out []int
	ahead := r.used
	for _, b := range own {
		if !b.Used {
			b.Number = r.nth(b.Sort, ahead[b.Sort])
			if b.Number > api.MaxVar {
				ahead = r.used
				b.Number = r.nth(b.Sort, ahead[b.Sort])
			}
			ahead[b.Sort]++
		}
		out = append(out, b.Number)
	}
	return out
}

// copied returns n in new memory.
func copied(n api.Node) api.Node {
	out := api.Node{Op: n.Op, N: n.N, Type: n.Type}
	if node.IsLeaf(n.Op) {
		return out
	}
	out.Args = slices.Grow(out.Args, len(n.Args))
	for _, a := range n.Args {
		out.Args = append(out.Args, copied(a))
	}
	for _, b := range n.Branches {
		out.Branches = append(out.Branches, api.Branch{Vars: slices.Clone(b.Vars), Co: slices.Clone(b.Co), Body: copied(b.Body)})
	}
	return out
}

// replacements returns what replaces which variables, unless one of them is there twice.
func replacements(xs []int, ps []api.Node, as []int, cs []api.Node) (by map[node.Variable]api.Node, ok bool) {
	if len(xs) != len(ps) || len(as) != len(cs) {
		return nil, false
	}
	by = map[node.Variable]api.Node{}
	for i, n := range xs {
		by[node.Variable{Sort: node.Producer, N: n}] = ps[i]
	}
	for i, n := range as {
		by[node.Variable{Sort: node.Consumer, N: n}] = cs[i]
	}
	return by, len(by) == len(xs)+len(as)
}

// outcome returns the free variables of n with replaced variables, unless that would have too many nodes.
func outcome(n api.Node, by map[node.Variable]api.Node) (free map[node.Variable]bool, ok bool) {
	total, ok := node.Size(n, api.MaxCore, math.MaxInt)
	if !ok {
		return nil, false
	}
	free = map[node.Variable]bool{}
	for x, count := range occurrences(n) {
		p, ok := by[x]
		if !ok {
			free[x] = true
			continue
		}
		nodes, ok := node.Size(p, api.MaxCore, math.MaxInt)
		if !ok {
			return nil, false
		}
		total += count * (nodes - 1)
		for y := range occurrences(p) {
			free[y] = true
		}
	}
	return free, total <= api.MaxCore
}
