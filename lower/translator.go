package lower

import (
	"chiasmus/api"
	"chiasmus/heads"
	"chiasmus/node"
)

// translator translates one function of a well-typed program.
type translator struct {
	node.Counter
	prog  api.Prog
	rules map[int]rule
}

func newTranslator(p api.Prog) *translator {
	return &translator{prog: p, rules: rules()}
}

// fun returns the translation of f.
func (l *translator) fun(f api.Fun, main bool) api.CoreFun {
	out := api.CoreFun{Name: f.Name, Params: params(f, main)}
	var names []string
	var xs []node.Variable
	for _, a := range f.Params {
		x := l.Fresh(node.Producer)
		names, xs, out.Vars = append(names, a.Name), append(xs, x), append(out.Vars, x.N)
	}
	s := scope{}.bind(names, xs)
	if main {
		body := l.term(s, f.Body, f.Result)
		x := l.Fresh(node.Producer)
		done := api.Node{Op: api.KDone, Args: []api.Node{x.Node()}}
		out.Body = node.Cut(f.Result, body, node.Binding(x, f.Result, done))
		return out
	}
	a := l.Fresh(node.Consumer)
	out.Vars = append(out.Vars, a.N)
	out.Body = l.pass(s, f.Body, f.Result, a.Node())
	return out
}

// term returns the translation of t, which has the type typ.
func (l *translator) term(s scope, t api.Term, typ int) api.Node {
	return l.rules[t.Op](l, s, t, typ)
}

// each returns the translations of terms; there is a type for each.
func (l *translator) each(s scope, terms []api.Term, types []int) []api.Node {
	var out []api.Node
	for i, t := range terms {
		out = append(out, l.term(s, t, types[i]))
	}
	return out
}

// pass returns the command that passes t to a.
func (l *translator) pass(s scope, t api.Term, typ int, a api.Node) api.Node {
	return node.Cut(typ, l.term(s, t, typ), a)
}

// mu returns a producer that binds a new variable in a command, which is made with it.
func (l *translator) mu(typ int, command func(a api.Node) api.Node) api.Node {
	a := l.Fresh(node.Consumer)
	return node.Binding(a, typ, command(a.Node()))
}

// clause returns the scope of the body of c, and a branch that binds what c binds.
func (l *translator) clause(s scope, c api.Clause) (scope, api.Branch) {
	var xs []node.Variable
	var b api.Branch
	for range c.Names {
		x := l.Fresh(node.Producer)
		xs, b.Vars, b.Co = append(xs, x), append(b.Vars, x.N), append(b.Co, false)
	}
	return s.bind(c.Names, xs), b
}

// argTypes returns the types of those arguments of the xtor of t that terms are given for.
func (l *translator) argTypes(t api.Term) []int {
	return heads.Producers(l.prog.Decls[t.Type-1].Xtors[t.N])
}
