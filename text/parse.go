package text

import (
	"chiasmus/api"
	"chiasmus/prim"
)

// parser reads tokens one by one. One token ahead decides everything.
type parser struct {
	pull func() token
	at   token // the next token, which is not taken yet
}

func parse(s string) progTree {
	p := parser{pull: tokens(s)}
	p.at = p.pull()
	var out progTree
	for p.at.text == "data" || p.at.text == "codata" {
		out.decls = append(out.decls, p.decl())
	}
	for p.at.text == "fun" {
		out.funs = append(out.funs, p.fun())
	}
	p.take(end)
	return out
}

// take takes the next token, which must be of this kind.
func (p *parser) take(kind int) string {
	if p.at.kind != kind {
		malformed()
	}
	text := p.at.text
	p.at = p.pull()
	return text
}

// skip takes tokens with the given texts.
func (p *parser) skip(texts ...string) {
	for _, s := range texts {
		if p.at.text != s {
			malformed()
		}
		p.at = p.pull()
	}
}

// list takes items, separated by commas, in between two tokens.
func list[T any](p *parser, first, last string, item func() T) []T {
	p.skip(first)
	var l []T
	for p.at.text != last {
		if len(l) > 0 {
			p.skip(",")
		}
		l = append(l, item())
	}
	p.skip(last)
	return l
}

func (p *parser) name() string {
	return p.take(lower)
}

func (p *parser) decl() declTree {
	codata := p.name() == "codata"
	name := p.name()
	return declTree{codata, name, list(p, "{", "}", p.xtor)}
}

func (p *parser) xtor() xtorTree {
	name := p.take(upper)
	return xtorTree{name, list(p, "(", ")", p.arg)}
}

func (p *parser) arg() argTree {
	co := p.at.text == "~"
	if co {
		p.skip("~")
	}
	return argTree{co, p.name()}
}

func (p *parser) fun() funTree {
	p.skip("fun")
	name := p.name()
	params := list(p, "(", ")", p.param)
	p.skip(":")
	result := p.name()
	p.skip("=")
	body := p.term()
	p.skip(";")
	return funTree{name, params, result, body}
}

// param takes a name and its type, which let and label have, too.
func (p *parser) param() paramTree {
	name := p.name()
	p.skip(":")
	return paramTree{name, p.name()}
}

// term takes a term together with all observations that follow it.
func (p *parser) term() termTree {
	t := p.simple()
	for p.at.text == "." {
		p.skip(".")
		word := p.take(upper)
		args := p.args()
		t = termTree{op: api.TDtor, word: word, args: append(args, t)}
	}
	return t
}

func (p *parser) args() []termTree {
	return list(p, "(", ")", p.term)
}

// simple takes a term that is not an observation.
func (p *parser) simple() termTree {
	switch p.at.kind {
	case number:
		return termTree{op: api.TInt, word: p.take(number)}
	case upper:
		word := p.take(upper)
		return termTree{op: api.TCon, word: word, args: p.args()}
	case lower:
		return p.form(p.take(lower))
	}
	return p.operation()
}

func (p *parser) operation() termTree {
	p.skip("(")
	a := p.term()
	word := p.take(sign)
	if _, ok := prim.Find(word); !ok {
		malformed()
	}
	b := p.term()
	p.skip(")")
	return termTree{op: api.TPrim, word: word, args: []termTree{a, b}}
}
