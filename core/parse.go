package core

import (
	"strconv"
	"strings"

	"chiasmus/api"
	"chiasmus/letters"
	"chiasmus/node"
	"chiasmus/prim"
)

// parser reads a string. What it has read it makes only after all of the string is read: a string that is malformed anywhere is ErrText, whatever its names are. If a name is declared twice, any declaration of it will do: such a program is not valid.
type parser struct {
	rest   string
	types  map[string]int
	codata []bool // for each type, whether it is a codata type
	xtors  map[string]place
	funs   map[string]int
}

// place is where an xtor is declared.
type place struct {
	typ, n int
}

func parse(s string) api.Core {
	p := parser{s, map[string]int{"int": 0}, []bool{false}, map[string]place{}, map[string]int{}}
	var decls []func() api.Decl
	for p.begins("data ") || p.begins("codata ") {
		decls = append(decls, p.decl())
	}
	var funs []func() api.CoreFun
	for p.begins("fun ") {
		p.skip("fun ")
		name := p.name()
		p.funs[name] = len(funs)
		funs = append(funs, p.fun(name))
	}
	if p.rest != "" {
		malformed()
	}
	c := api.Core{Decls: made(decls), Funs: made(funs)}
	if !valid(c) {
		invalid()
	}
	return c
}

// made makes what was read.
func made[T any, F ~func() T](l []F) []T {
	var out []T
	for _, f := range l {
		out = append(out, f())
	}
	return out
}

// find returns what is known of a name.
func find[T any](known map[string]T, name string) T {
	x, ok := known[name]
	if !ok {
		invalid()
	}
	return x
}

func (p *parser) begins(s string) bool {
	return strings.HasPrefix(p.rest, s)
}

// try skips s if it is next.
func (p *parser) try(s string) bool {
	rest, ok := strings.CutPrefix(p.rest, s)
	p.rest = rest
	return ok
}

func (p *parser) skip(s string) {
	if !p.try(s) {
		malformed()
	}
}

// take takes the next bytes, which must be some.
func (p *parser) take(length int) string {
	if length == 0 {
		malformed()
	}
	s := p.rest[:length]
	p.rest = p.rest[length:]
	return s
}

// list takes items, separated by commas, and then last.
func list[T any](p *parser, last string, item func() T) []T {
	if p.try(last) {
		return nil
	}
	l := []T{item()}
	for !p.try(last) {
		p.skip(", ")
		l = append(l, item())
	}
	return l
}

func (p *parser) name() string {
	if p.rest == "" || !letters.IsLower(p.rest[0]) {
		malformed()
	}
	return p.take(letters.Word(p.rest))
}

func (p *parser) xtorName() string {
	if p.rest == "" || !letters.IsUpper(p.rest[0]) {
		malformed()
	}
	return p.take(letters.Word(p.rest))
}

// number takes a number, which may be too large to be an integer.
func (p *parser) number() string {
	return p.take(letters.Number(p.rest))
}

func integer(digits string) int {
	n, err := strconv.Atoi(digits)
	if err != nil {
		invalid()
	}
	return n
}

func (p *parser) operation() int {
	for n := range api.Lt + 1 {
		if p.try(prim.Sign(n) + ", ") {
			return n
		}
	}
	malformed()
	return 0
}

func (p *parser) decl() func() api.Decl {
	codata := p.try("codata ")
	if !codata {
		p.skip("data ")
	}
	typ := len(p.codata)
	p.codata = append(p.codata, codata)
	name := p.name()
	p.types[name] = typ
	p.skip(" { ")
	n := 0
	xtors := list(p, " }\n", func() func() api.Xtor {
		xtor := p.xtorName()
		p.xtors[xtor] = place{typ, n}
		n++
		return p.xtor(xtor)
	})
	return func() api.Decl {
		return api.Decl{Name: name, Codata: codata, Xtors: made(xtors)}
	}
}

func (p *parser) xtor(name string) func() api.Xtor {
	p.skip("(")
	args := list(p, ")", func() func() api.Arg {
		co := p.try("~")
		typ := p.name()
		return func() api.Arg { return api.Arg{Type: find(p.types, typ), Co: co} }
	})
	return func() api.Xtor {
		return api.Xtor{Name: name, Args: made(args)}
	}
}

// fun takes what follows the name of a function.
func (p *parser) fun(name string) func() api.CoreFun {
	p.skip("(")
	var types []string
	vars := list(p, ") = ", func() readVariable {
		x := p.variable()
		p.skip(" : ")
		types = append(types, p.name())
		return x
	})
	body := p.command()
	p.skip(";\n")
	return func() api.CoreFun {
		f := api.CoreFun{Name: name, Body: body()}
		for i, x := range vars {
			f.Params = append(f.Params, api.Arg{Type: find(p.types, types[i]), Co: x.sort == node.Consumer})
			f.Vars = append(f.Vars, integer(x.digits))
		}
		return f
	}
}
