package step

import (
	"slices"

	"chiasmus/api"
	"chiasmus/node"
)

// term is a node of a command that is executed. Terms never change, so that commands can share them: a step makes only those anew in which it replaces a variable.
type term struct {
	op, n, typ int
	by         *node.Binder // what binds the variable that the term is, if it is one
	args       []*term
	branches   []branch
	size
}

// branch is a command in which variables wait for values: that of a branch, of a mu or a comu, or of a function.
type branch struct {
	own  []node.Binder
	uses int // how often they occur in the body
	body *term
}

// size is kept in each term: a command can be much larger than the terms that it is made of, since they may occur in it many times.
type size struct {
	nodes, depth int
	free         int // how many occurrences of variables are free
}

// measured returns t with its size.
func measured(t term) *term {
	t.size = size{nodes: 1, depth: 1}
	if t.by != nil {
		t.free = 1
	}
	for _, a := range t.args {
		t.contain(a, 0)
	}
	for _, b := range t.branches {
		t.contain(b.body, b.uses)
	}
	return &t
}

// contain adds the size of a child, in which so many occurrences of variables are bound.
func (s *size) contain(child *term, bound int) {
	s.nodes += child.nodes
	s.depth = max(s.depth, child.depth+1)
	s.free += child.free - bound
}

func integer(n int) *term {
	return measured(term{op: api.PInt, n: n})
}

func cut(typ int, p, c *term) *term {
	return measured(term{op: api.KCut, typ: typ, args: []*term{p, c}})
}

// apply returns the body of b in which values replace the variables. Values in a run have no free variables, so that none can be captured.
func (b branch) apply(values ...*term) *term {
	by := map[*node.Binder]*term{}
	for i, v := range values {
		by[&b.own[i]] = v
	}
	return b.body.replaced(by)
}

func (t *term) replaced(by map[*node.Binder]*term) *term {
	if t.free == 0 {
		return t
	}
	if t.by != nil {
		if v, ok := by[t.by]; ok {
			return v
		}
		return t
	}
	out := term{op: t.op, n: t.n, typ: t.typ}
	out.args = slices.Grow(out.args, len(t.args))
	for _, a := range t.args {
		out.args = append(out.args, a.replaced(by))
	}
	for _, b := range t.branches {
		out.branches = append(out.branches, branch{b.own, b.uses, b.body.replaced(by)})
	}
	return measured(out)
}

// reader makes terms from nodes, and counts how often what binds a variable is used.
type reader map[*node.Binder]int

// read returns n, which must be valid, as a term.
func read(n api.Node) *term {
	return node.Fold(node.Scope{}, n, reader{}.term)
}

// readFun returns f as the branch that its body is.
func readFun(f api.CoreFun) branch {
	return read(node.Closed(f)).branches[0]
}

func (r reader) term(f node.Folded[*term]) *term {
	t := term{op: f.Op, n: f.N, typ: f.Type, by: f.By}
	if f.By != nil {
		r[f.By]++
	}
	if bindsInArgs(f.Op) {
		t.branches = append(t.branches, r.branch(f.Own, f.FoldedArgs[0]))
	} else {
		t.args = f.FoldedArgs
	}
	for _, b := range f.FoldedBranches {
		t.branches = append(t.branches, r.branch(b.Own, b.Body))
	}
	return measured(t)
}

func (r reader) branch(own []node.Binder, body *term) branch {
	b := branch{own: own, body: body}
	for i := range own {
		b.uses += r[&own[i]]
	}
	return b
}

func bindsInArgs(op int) bool {
	return op == api.PMu || op == api.CMu
}

// node returns t as a node. Variables have the numbers with which they were read: the values that were put among them use no variables but their own.
func (t *term) node() api.Node {
	out := api.Node{Op: t.op, N: t.n, Type: t.typ}
	for _, a := range t.args {
		out.Args = append(out.Args, a.node())
	}
	for _, b := range t.branches {
		if bindsInArgs(t.op) {
			out.Args = append(out.Args, b.body.node())
		} else {
			out.Branches = append(out.Branches, b.node())
		}
	}
	return out
}

func (b branch) node() api.Branch {
	out := api.Branch{Body: b.body.node()}
	for _, x := range b.own {
		out.Vars = append(out.Vars, x.N)
		out.Co = append(out.Co, x.Sort == node.Consumer)
	}
	return out
}
