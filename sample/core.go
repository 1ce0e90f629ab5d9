package sample

import "chiasmus/api"

// CoreMaker makes valid nodes of a core program: all fields are as they must be, and all variables are in scope.
type CoreMaker struct {
	*Numbers
	core api.Core
	odd  int
}

// NewCoreMaker returns a maker of nodes of c, of which only the declarations and the heads of the functions count. Without oddity each node has the type that was asked for; with oddity n, one producer or consumer in n is made for any type.
func NewCoreMaker(c api.Core, s *Numbers, oddity int) CoreMaker {
	return CoreMaker{s, c, oddity}
}

// Core returns the program with other bodies, of which each has a depth of at most about the given one, and with other variables. It is valid if it is not too large.
func (m CoreMaker) Core(depth int) api.Core {
	out := api.Core{Decls: m.core.Decls}
	for _, f := range m.core.Funs {
		b := coreScope{CoreMaker: m, depth: depth + 1}.branch(f.Params)
		f.Vars, f.Body = b.Vars, b.Body
		out.Funs = append(out.Funs, f)
	}
	return out
}

// Variable is a producer variable, or a consumer variable if Co is set, and its type.
type Variable struct {
	N int
	api.Arg
}

// Producer returns a producer of the given type in the scope of these variables. Its depth may be a little larger than the given one.
func (m CoreMaker) Producer(depth, typ int, scope []Variable) api.Node {
	return coreScope{m, depth, scope}.part(api.Arg{Type: typ})
}

// Consumer returns a consumer, like Producer.
func (m CoreMaker) Consumer(depth, typ int, scope []Variable) api.Node {
	return coreScope{m, depth, scope}.part(api.Arg{Type: typ, Co: true})
}

// Command returns a command, like Producer.
func (m CoreMaker) Command(depth int, scope []Variable) api.Node {
	return coreScope{m, depth, scope}.command()
}

// coreScope is a place in a node: what is in scope there, and how deep a node may be.
type coreScope struct {
	CoreMaker
	depth int
	scope []Variable
}

func (s coreScope) deeper() coreScope {
	s.depth--
	return s
}

// with returns the scope in which more variables hide those with the same numbers.
func (s coreScope) with(bound ...Variable) coreScope {
	var out []Variable
	for _, x := range s.scope {
		if !hides(bound, x) {
			out = append(out, x)
		}
	}
	s.scope = append(out, bound...)
	return s
}

func hides(bound []Variable, x Variable) bool {
	for _, y := range bound {
		if x.N == y.N && x.Co == y.Co {
			return true
		}
	}
	return false
}

// numbers returns n distinct numbers: few different ones, so that inner variables hide outer ones.
func (s coreScope) numbers(n int) []int {
	l := []int{0, 1, 2, 3, 4, 5, 17, api.MaxVar}
	for i := range n {
		j := i + s.Below(len(l)-i)
		l[i], l[j] = l[j], l[i]
	}
	return l[:n]
}

func (s coreScope) anyType() int {
	return s.Below(len(s.core.Decls) + 1)
}

// branch returns a branch that binds these arguments. One number may be that of a producer and of a consumer.
func (s coreScope) branch(args []api.Arg) api.Branch {
	var out api.Branch
	var bound []Variable
	producers, consumers := s.numbers(len(args)), s.numbers(len(args))
	for i, a := range args {
		n := producers[i]
		if a.Co {
			n = consumers[i]
		}
		out.Vars = append(out.Vars, n)
		out.Co = append(out.Co, a.Co)
		bound = append(bound, Variable{n, a})
	}
	out.Body = s.deeper().with(bound...).command()
	return out
}

// parts returns a producer or a consumer for each of args.
func (s coreScope) parts(args []api.Arg) []api.Node {
	var out []api.Node
	for _, a := range args {
		out = append(out, s.deeper().part(a))
	}
	return out
}

// part returns a producer or a consumer of a's type.
func (s coreScope) part(a api.Arg) api.Node {
	if s.odd > 0 && s.Below(s.odd) == 0 {
		a.Type = s.anyType()
	}
	if s.depth <= 1 || s.Below(5) == 0 {
		return s.leaf(a)
	}
	if s.Below(3) == 0 {
		return s.mu(a)
	}
	return s.made(a)
}

// leaf returns a variable, or something small.
func (s coreScope) leaf(a api.Arg) api.Node {
	var l []Variable
	for _, x := range s.scope {
		if x.Arg == a {
			l = append(l, x)
		}
	}
	switch {
	case len(l) > 0 && s.Below(4) > 0:
		return variable(Pick(s.Numbers, l))
	case a.Type == 0 && !a.Co:
		return s.integer()
	}
	s.depth = 0
	return s.mu(a)
}

func variable(x Variable) api.Node {
	if x.Co {
		return api.Node{Op: api.CVar, N: x.N}
	}
	return api.Node{Op: api.PVar, N: x.N}
}

func (s coreScope) integer() api.Node {
	return api.Node{Op: api.PInt, N: integer(s.Numbers)}
}

func (s coreScope) mu(a api.Arg) api.Node {
	out := api.Node{Op: api.PMu, N: s.numbers(1)[0], Type: a.Type}
	if a.Co {
		out.Op = api.CMu
	}
	bound := Variable{out.N, api.Arg{Type: a.Type, Co: !a.Co}}
	out.Args = []api.Node{s.deeper().with(bound).command()}
	return out
}

// made applies an xtor, or takes one apart. Integers have no xtors.
func (s coreScope) made(a api.Arg) api.Node {
	if a.Type == 0 {
		if a.Co {
			return s.mu(a)
		}
		return s.integer()
	}
	d := s.core.Decls[a.Type-1]
	if d.Codata == a.Co {
		n := s.Below(len(d.Xtors))
		return api.Node{Op: either(a.Co, api.CXtor, api.PXtor), N: n, Type: a.Type, Args: s.parts(d.Xtors[n].Args)}
	}
	out := api.Node{Op: either(a.Co, api.CMatch, api.PMatch), Type: a.Type}
	for _, x := range d.Xtors {
		out.Branches = append(out.Branches, s.branch(x.Args))
	}
	return out
}

func either(b bool, x, y int) int {
	if b {
		return x
	}
	return y
}

func (s coreScope) command() api.Node {
	value, end := api.Arg{}, api.Arg{Co: true}
	if s.depth <= 1 {
		return api.Node{Op: api.KDone, Args: []api.Node{s.leaf(value)}}
	}
	switch s.Below(10) {
	case 0:
		return api.Node{Op: api.KPrim, N: s.Below(api.Lt + 1), Args: s.parts([]api.Arg{value, value, end})}
	case 1:
		args := s.parts([]api.Arg{value})
		return api.Node{Op: api.KIfz, Args: append(args, s.deeper().command(), s.deeper().command())}
	case 2:
		args := s.parts([]api.Arg{value})
		return api.Node{Op: api.KEmit, Args: append(args, s.deeper().command())}
	case 3:
		n := s.Below(len(s.core.Funs))
		return api.Node{Op: api.KCall, N: n, Args: s.parts(s.core.Funs[n].Params)}
	case 4:
		return api.Node{Op: api.KDone, Args: s.parts([]api.Arg{value})}
	}
	typ := s.anyType()
	return api.Node{Op: api.KCut, Type: typ, Args: s.parts([]api.Arg{{Type: typ}, {Type: typ, Co: true}})}
}

// DisturbNode changes one field of n or of one of its descendants, mostly so that n is no longer valid.
func DisturbNode(s *Numbers, n *api.Node) {
	if len(n.Args) > 0 && s.Below(4) > 0 {
		DisturbNode(s, &n.Args[s.Below(len(n.Args))])
		return
	}
	if len(n.Branches) > 0 && s.Below(2) == 0 {
		b := &n.Branches[s.Below(len(n.Branches))]
		if s.Below(4) > 0 {
			DisturbNode(s, &b.Body)
			return
		}
		disturbBranch(s, b)
		return
	}
	odd := []int{-1 << 63, -2, -1, 0, 1, 2, 3, 4, 5, 8, 14, 15, api.MaxVar, api.MaxVar + 1, 1<<63 - 1}
	switch s.Below(5) {
	case 0:
		n.Op = Pick(s, odd)
	case 1:
		n.N = Pick(s, odd)
	case 2:
		n.Type = Pick(s, odd)
	case 3:
		n.Args = n.Args[:s.Below(len(n.Args)+1)]
	case 4:
		n.Branches = n.Branches[:s.Below(len(n.Branches)+1)]
	}
}

func disturbBranch(s *Numbers, b *api.Branch) {
	if len(b.Vars) == 0 || len(b.Co) < len(b.Vars) || s.Below(3) == 0 {
		b.Vars, b.Co = append(b.Vars, s.Below(3)), append(b.Co, s.Below(2) == 0)
		return
	}
	i := s.Below(len(b.Vars))
	switch s.Below(3) {
	case 0:
		b.Vars[i] = Pick(s, []int{-1, 0, 1, api.MaxVar, api.MaxVar + 1})
	case 1:
		b.Co[i] = !b.Co[i]
	case 2:
		b.Co = b.Co[:i]
	}
}
