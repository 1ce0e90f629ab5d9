package core

import (
	"chiasmus/api"
	"chiasmus/letters"
	"chiasmus/node"
)

// maker makes a node that was read.
type maker func() api.Node

// readVariable is a variable as it was read: its number may be too large to be an integer.
type readVariable struct {
	sort   node.Sort
	digits string
}

func (p *parser) variable() readVariable {
	s := node.Consumer
	if !p.try("a") {
		p.skip("x")
		s = node.Producer
	}
	return readVariable{s, p.number()}
}

// node takes a producer, a consumer or a command. Which of them is required does not matter before the whole program is checked.
func (p *parser) node() maker {
	switch {
	case p.begins("x") || p.begins("a"):
		return p.occurrence()
	case p.try("mu("):
		return p.mu(api.PMu, node.Consumer)
	case p.try("comu("):
		return p.mu(api.CMu, node.Producer)
	case p.try("match "):
		return p.match()
	case p.rest == "":
		malformed()
	case letters.IsUpper(p.rest[0]):
		return p.application()
	case letters.IsLower(p.rest[0]):
		return p.command()
	}
	return p.integer()
}

func (p *parser) occurrence() maker {
	x := p.variable()
	op := api.PVar
	if x.sort == node.Consumer {
		op = api.CVar
	}
	return func() api.Node { return api.Node{Op: op, N: integer(x.digits)} }
}

func (p *parser) integer() maker {
	minus := p.try("-")
	digits := p.number()
	if minus {
		if digits == "0" {
			malformed()
		}
		digits = "-" + digits
	}
	return func() api.Node { return api.Node{Op: api.PInt, N: integer(digits)} }
}

// mu takes the rest of a mu or a comu, which binds a variable of this sort.
func (p *parser) mu(op int, s node.Sort) maker {
	x := p.variable()
	if x.sort != s {
		malformed()
	}
	p.skip(" : ")
	typ := p.name()
	p.skip(", ")
	k := p.command()
	p.skip(")")
	return func() api.Node {
		return api.Node{Op: op, N: integer(x.digits), Type: find(p.types, typ), Args: []api.Node{k()}}
	}
}

func (p *parser) application() maker {
	xtor := p.xtorName()
	p.skip("(")
	args := p.args()
	return func() api.Node {
		x := find(p.xtors, xtor)
		op := api.PXtor
		if p.codata[x.typ] {
			op = api.CXtor
		}
		return api.Node{Op: op, N: x.n, Type: x.typ, Args: made(args)}
	}
}

// args takes the nodes of a list in parentheses, of which the first one is taken already.
func (p *parser) args() []maker {
	return list(p, ")", p.node)
}

func (p *parser) match() maker {
	name := p.name()
	p.skip(" { ")
	var xtors []string
	branches := list(p, " }", func() func() api.Branch {
		xtors = append(xtors, p.xtorName())
		return p.branch()
	})
	return func() api.Node {
		typ := find(p.types, name)
		// The branches of a program do not keep the names of the xtors. Whether one is missing at the end is seen later.
		for i, s := range xtors {
			if (find(p.xtors, s) != place{typ, i}) {
				invalid()
			}
		}
		op := api.CMatch
		if p.codata[typ] {
			op = api.PMatch
		}
		return api.Node{Op: op, Type: typ, Branches: made(branches)}
	}
}

// branch takes what follows the xtor of a branch.
func (p *parser) branch() func() api.Branch {
	p.skip("(")
	vars := list(p, ")", p.variable)
	p.skip(" => ")
	k := p.command()
	return func() api.Branch {
		b := api.Branch{Body: k()}
		for _, x := range vars {
			b.Vars = append(b.Vars, integer(x.digits))
			b.Co = append(b.Co, x.sort == node.Consumer)
		}
		return b
	}
}

func (p *parser) command() maker {
	switch {
	case p.try("cut("):
		return p.cut()
	case p.try("prim("):
		return p.prim()
	case p.try("ifz("):
		return p.fixed(api.KIfz, p.node, p.command, p.command)
	case p.try("emit("):
		return p.fixed(api.KEmit, p.node, p.command)
	case p.try("call "):
		return p.call()
	}
	p.skip("done(")
	return p.fixed(api.KDone, p.node)
}

// fixed takes the rest of a list whose items are fixed.
func (p *parser) fixed(op int, items ...func() maker) maker {
	var args []maker
	for i, item := range items {
		if i > 0 {
			p.skip(", ")
		}
		args = append(args, item())
	}
	p.skip(")")
	return func() api.Node { return api.Node{Op: op, Args: made(args)} }
}

func (p *parser) cut() maker {
	typ := p.name()
	p.skip(", ")
	rest := p.fixed(api.KCut, p.node, p.node)
	return func() api.Node {
		n := rest()
		n.Type = find(p.types, typ)
		return n
	}
}

func (p *parser) prim() maker {
	operation := p.operation()
	rest := p.fixed(api.KPrim, p.node, p.node, p.node)
	return func() api.Node {
		n := rest()
		n.N = operation
		return n
	}
}

func (p *parser) call() maker {
	name := p.name()
	p.skip("(")
	args := p.args()
	return func() api.Node {
		return api.Node{Op: api.KCall, N: find(p.funs, name), Args: made(args)}
	}
}
