package core_test

import (
	"fmt"
	"maps"
	"slices"
	"strings"

	"chiasmus/api"
)

// The reference follows the chapter in other ways than the package: variables have names, an environment is a list of them, and a bound variable is shown as its position in it.

func name(co bool, n int) string {
	if co {
		return fmt.Sprint("a", n)
	}
	return fmt.Sprint("x", n)
}

func bound(b api.Branch) []string {
	var out []string
	for i, n := range b.Vars {
		out = append(out, name(i < len(b.Co) && b.Co[i], n))
	}
	return out
}

func boundByMu(n api.Node) []string {
	switch n.Op {
	case api.PMu:
		return []string{name(true, n.N)}
	case api.CMu:
		return []string{name(false, n.N)}
	}
	return nil
}

// shown returns a string that nodes share exactly if they are equivalent.
func shown(n api.Node, env []string) string {
	switch n.Op {
	case api.PVar, api.CVar:
		s := name(n.Op == api.CVar, n.N)
		for i, y := range slices.Backward(env) {
			if y == s {
				return fmt.Sprint("bound ", i)
			}
		}
		return s
	case api.PInt:
		return fmt.Sprint(n.N)
	}
	var l []string
	switch n.Op {
	case api.PXtor, api.CXtor:
		l = append(l, fmt.Sprint("xtor ", n.Type, n.N))
	case api.PMu, api.CMu, api.PMatch, api.CMatch, api.KCut:
		l = append(l, fmt.Sprint("type ", n.Type))
	case api.KPrim, api.KCall:
		l = append(l, fmt.Sprint("number ", n.N))
	}
	inside := slices.Concat(env, boundByMu(n))
	for _, c := range n.Args {
		l = append(l, shown(c, inside))
	}
	for _, b := range n.Branches {
		var sorts strings.Builder
		for _, s := range bound(b) {
			sorts.WriteByte(s[0])
		}
		l = append(l, "branch "+sorts.String()+" "+shown(b.Body, slices.Concat(env, bound(b))))
	}
	return fmt.Sprint(n.Op, "{", strings.Join(l, "; "), "}")
}

// free computes the free variables from below, as sets from which the bound ones are taken away.
func free(n api.Node) map[string]bool {
	switch n.Op {
	case api.PVar, api.CVar:
		return map[string]bool{name(n.Op == api.CVar, n.N): true}
	case api.PInt:
		return nil
	}
	out := map[string]bool{}
	add := func(c api.Node, bound []string) {
		l := free(c)
		for _, s := range bound {
			delete(l, s)
		}
		maps.Copy(out, l)
	}
	for _, c := range n.Args {
		add(c, boundByMu(n))
	}
	for _, b := range n.Branches {
		add(b.Body, bound(b))
	}
	return out
}

// listed returns free variables as Free does.
func listed(l map[string]bool) (xs, as []int) {
	for s := range l {
		n := 0
		fmt.Sscan(s[1:], &n)
		if s[0] == 'x' {
			xs = append(xs, n)
		} else {
			as = append(as, n)
		}
	}
	slices.Sort(xs)
	slices.Sort(as)
	return xs, as
}

func measure(n api.Node) (nodes, depth int) {
	nodes = 1
	if n.Op == api.PVar || n.Op == api.CVar || n.Op == api.PInt {
		return 1, 1
	}
	children := slices.Clone(n.Args)
	for _, b := range n.Branches {
		children = append(children, b.Body)
	}
	for _, c := range children {
		m, d := measure(c)
		nodes, depth = nodes+m, max(depth, d)
	}
	return nodes, depth + 1
}

// replacer substitutes as in a textbook: at each binder it picks numbers that occur nowhere else, from next on, and substitutes them, too.
type replacer struct {
	next int
}

func (r *replacer) fresh() int {
	r.next++
	return r.next
}

func (r *replacer) replace(n api.Node, by map[string]api.Node) api.Node {
	switch n.Op {
	case api.PVar, api.CVar:
		if p, ok := by[name(n.Op == api.CVar, n.N)]; ok {
			return p
		}
		return n
	case api.PInt:
		return n
	}
	out := api.Node{Op: n.Op, N: n.N, Type: n.Type}
	inside := maps.Clone(by)
	if len(boundByMu(n)) > 0 {
		out.N = r.fresh()
		inside[boundByMu(n)[0]] = r.variable(n.Op == api.PMu, out.N)
	}
	for _, c := range n.Args {
		out.Args = append(out.Args, r.replace(c, inside))
	}
	for _, b := range n.Branches {
		inside := maps.Clone(by)
		c := api.Branch{}
		for i, s := range bound(b) {
			c.Vars = append(c.Vars, r.fresh())
			c.Co = append(c.Co, s[0] == 'a')
			inside[s] = r.variable(c.Co[i], c.Vars[i])
		}
		c.Body = r.replace(b.Body, inside)
		out.Branches = append(out.Branches, c)
	}
	return out
}

func (r *replacer) variable(co bool, n int) api.Node {
	if co {
		return a(n)
	}
	return x(n)
}

// replaced returns what Subst should return.
func replaced(n api.Node, xs []int, ps []api.Node, as []int, cs []api.Node) api.Node {
	by := map[string]api.Node{}
	for i, m := range xs {
		by[name(false, m)] = ps[i]
	}
	for i, m := range as {
		by[name(true, m)] = cs[i]
	}
	return (&replacer{1 << 40}).replace(n, by)
}

// other returns a node that is equivalent to n: the numbers of its bound variables begin with first, from where on there must be no free ones.
func other(n api.Node, first int) api.Node {
	return (&replacer{first - 1}).replace(n, map[string]api.Node{})
}

// binders returns the numbers of all variables that are bound in n.
func binders(n api.Node) []int {
	var out []int
	if n.Op == api.PVar || n.Op == api.CVar || n.Op == api.PInt {
		return nil
	}
	if len(boundByMu(n)) > 0 {
		out = append(out, n.N)
	}
	for _, c := range n.Args {
		out = append(out, binders(c)...)
	}
	for _, b := range n.Branches {
		out = append(append(out, b.Vars...), binders(b.Body)...)
	}
	return out
}
