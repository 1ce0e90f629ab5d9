package decl

import (
	"strconv"

	"chiasmus/api"
)

// Short ways to write declarations.

func data(name string, xtors ...api.Xtor) api.Decl {
	return api.Decl{Name: name, Xtors: xtors}
}

func codata(name string, xtors ...api.Xtor) api.Decl {
	return api.Decl{Name: name, Codata: true, Xtors: xtors}
}

func xtor(name string, args ...api.Arg) api.Xtor {
	return api.Xtor{Name: name, Args: args}
}

func pro(t int) api.Arg {
	return api.Arg{Type: t}
}

func con(t int) api.Arg {
	return api.Arg{Type: t, Co: true}
}

// example returns the declarations of the chapter's first example.
func example() []api.Decl {
	return []api.Decl{
		data("list", xtor("Nil"), xtor("Cons", pro(0), pro(1))),
		codata("stream", xtor("Head", con(0)), xtor("Tail", con(2))),
		data("knot", xtor("Tie", pro(3))),
	}
}

// full returns declarations that reach all limits at once.
func full() []api.Decl {
	var l []api.Decl
	for i := range api.MaxDecls {
		d := data("abcdefghi" + strconv.Itoa(i))
		for j := range api.MaxXtors {
			x := xtor("Abcdefgh" + strconv.Itoa(i) + strconv.Itoa(j))
			for k := range api.MaxArgs {
				x.Args = append(x.Args, api.Arg{Type: (i + j + k) % (api.MaxDecls + 1), Co: k%2 == 1})
			}
			d.Xtors = append(d.Xtors, x)
		}
		d.Codata = i%2 == 1
		l = append(l, d)
	}
	return l
}

// clone returns a copy that shares no memory with l.
func clone(l []api.Decl) []api.Decl {
	var out []api.Decl
	for _, d := range l {
		c := api.Decl{Name: d.Name, Codata: d.Codata}
		for _, x := range d.Xtors {
			c.Xtors = append(c.Xtors, api.Xtor{Name: x.Name, Args: append([]api.Arg(nil), x.Args...)})
		}
		out = append(out, c)
	}
	return out
}

// numbers yields a fixed sequence of numbers below n that shows no short pattern.
type numbers uint64

func (s *numbers) below(n int) int {
	*s = *s*6364136223846793005 + 1442695040888963407
	return int(uint64(*s>>33) % uint64(n))
}

// mixed returns valid declarations in which the sequence decides about everything but the names.
func mixed(s *numbers) []api.Decl {
	l := make([]api.Decl, 1+s.below(api.MaxDecls))
	for i := range l {
		l[i] = data("d" + strconv.Itoa(i))
		l[i].Codata = s.below(6) == 0
		for j := range 1 + s.below(3) {
			x := xtor("X" + strconv.Itoa(i) + "y" + strconv.Itoa(j))
			for range s.below(4) {
				x.Args = append(x.Args, api.Arg{Type: s.below(len(l) + 1), Co: s.below(12) == 0})
			}
			l[i].Xtors = append(l[i].Xtors, x)
		}
	}
	return l
}
