package text

import (
	"chiasmus/api"
)

// form takes the rest of a term that begins with this word.
func (p *parser) form(word string) termTree {
	switch word {
	case "ifz":
		return termTree{op: api.TIfz, args: p.exactly(3)}
	case "case":
		return p.match()
	case "cocase":
		typ := p.name()
		return termTree{op: api.TCocase, typ: typ, clauses: p.clauses()}
	case "let":
		return p.let()
	case "emit":
		return termTree{op: api.TEmit, args: p.exactly(2)}
	case "label":
		return p.label()
	case "goto":
		return p.jump()
	}
	if p.at.text == "(" {
		return termTree{op: api.TCall, word: word, args: p.args()}
	}
	return termTree{op: api.TVar, word: word}
}

// exactly takes the arguments of a form that must have n of them.
func (p *parser) exactly(n int) []termTree {
	args := p.args()
	if len(args) != n {
		malformed()
	}
	return args
}

func (p *parser) match() termTree {
	typ := p.name()
	p.skip("(")
	t := p.term()
	p.skip(")")
	return termTree{op: api.TCase, typ: typ, args: []termTree{t}, clauses: p.clauses()}
}

func (p *parser) clauses() []clauseTree {
	return list(p, "{", "}", p.clause)
}

func (p *parser) clause() clauseTree {
	xtor := p.take(upper)
	names := list(p, "(", ")", p.name)
	p.skip("=>")
	return clauseTree{xtor, names, p.term()}
}

func (p *parser) let() termTree {
	p.skip("(")
	x := p.param()
	p.skip("=")
	t := p.term()
	p.skip(",")
	u := p.term()
	p.skip(")")
	return termTree{op: api.TLet, word: x.name, typ: x.typ, args: []termTree{t, u}}
}

func (p *parser) label() termTree {
	p.skip("(")
	k := p.param()
	p.skip(",")
	t := p.term()
	p.skip(")")
	return termTree{op: api.TLabel, word: k.name, typ: k.typ, args: []termTree{t}}
}

func (p *parser) jump() termTree {
	p.skip("(")
	name := p.name()
	p.skip(",")
	t := p.term()
	p.skip(":")
	typ := p.name()
	p.skip(")")
	return termTree{op: api.TGoto, word: name, typ: typ, args: []termTree{t}}
}
