package core

import (
	"math"
	"slices"

	"chiasmus/api"
)

// renaming makes a node anew, with other numbers for all its bound variables, and with nodes in the place of some free ones.
type renaming struct {
	by   map[variable]api.Node
	nth  func(s sort, i int) int // the numbers for bound variables, for each sort
	used [2]int                  // for each sort, how many of them are in use
}

// renamed returns n with replaced variables. No free variable of the result may be missing in taken.
func renamed(n api.Node, by map[variable]api.Node, taken map[variable]bool) api.Node {
	r := renaming{by: by, nth: untaken(taken)}
	return fold(scope{}, n, r.node)
}

// untaken returns a function that returns, for each i, another number that no variable of this sort in taken has. It counts up only once.
func untaken(taken map[variable]bool) func(s sort, i int) int {
	var next [2]int
	var found [2][]int
	return func(s sort, i int) int {
		for len(found[s]) <= i {
			for taken[variable{s, next[s]}] {
				next[s]++
			}
			found[s] = append(found[s], next[s])
			next[s]++
		}
		return found[s][i]
	}
}

func (r *renaming) node(f folded[api.Node]) api.Node {
	out := api.Node{Op: f.Op, N: f.N, Type: f.Type, Args: f.args}
	if x, ok := occurrence(f.Node); ok {
		if f.by != nil {
			out.N = r.use(f.by)
		} else if p, ok := r.by[x]; ok {
			return copied(p)
		}
	}
	if len(f.own) > 0 {
		out.N = r.numbers(f.own)[0]
	}
	for i, b := range f.branches {
		out.Branches = append(out.Branches, api.Branch{Vars: r.numbers(b.own), Co: slices.Clone(f.Branches[i].Co), Body: b.body})
	}
	return out
}

// use returns the number of a bound variable that occurs. No two of them share a number, so none of them hides another one.
func (r *renaming) use(b *binder) int {
	if !b.used {
		b.used = true
		b.number = r.nth(b.sort, r.used[b.sort])
		r.used[b.sort]++
	}
	return b.number
}

// numbers returns the numbers of all variables that a node binds. Those that do not occur may share theirs with variables that occur elsewhere: there may be more of them than numbers.
func (r *renaming) numbers(own []binder) []int {
	var out []int
	ahead := r.used
	for _, b := range own {
		if !b.used {
			b.number = r.nth(b.sort, ahead[b.sort])
			if b.number > api.MaxVar {
				ahead = r.used
				b.number = r.nth(b.sort, ahead[b.sort])
			}
			ahead[b.sort]++
		}
		out = append(out, b.number)
	}
	return out
}

// copied returns n in new memory.
func copied(n api.Node) api.Node {
	out := api.Node{Op: n.Op, N: n.N, Type: n.Type}
	if isLeaf(n.Op) {
		return out
	}
	out.Args = slices.Grow(out.Args, len(n.Args))
	for _, a := range n.Args {
		out.Args = append(out.Args, copied(a))
	}
	for _, b := range n.Branches {
		out.Branches = append(out.Branches, api.Branch{Vars: slices.Clone(b.Vars), Co: slices.Clone(b.Co), Body: copied(b.Body)})
	}
	return out
}

// replacements returns what replaces which variables, unless one of them is there twice.
func replacements(xs []int, ps []api.Node, as []int, cs []api.Node) (by map[variable]api.Node, ok bool) {
	if len(xs) != len(ps) || len(as) != len(cs) {
		return nil, false
	}
	by = map[variable]api.Node{}
	for i, n := range xs {
		by[variable{producer, n}] = ps[i]
	}
	for i, n := range as {
		by[variable{consumer, n}] = cs[i]
	}
	return by, len(by) == len(xs)+len(as)
}

// outcome returns the free variables of n with replaced variables, unless that would have too many nodes.
func outcome(n api.Node, by map[variable]api.Node) (free map[variable]bool, ok bool) {
	total, ok := size(n, api.MaxCore, math.MaxInt)
	if !ok {
		return nil, false
	}
	free = map[variable]bool{}
	for x, count := range occurrences(n) {
		p, ok := by[x]
		if !ok {
			free[x] = true
			continue
		}
		nodes, ok := size(p, api.MaxCore, math.MaxInt)
		if !ok {
			return nil, false
		}
		total += count * (nodes - 1)
		for y := range occurrences(p) {
			free[y] = true
		}
	}
	return free, total <= api.MaxCore
}
