package node

import (
	"slices"
	"testing"

	"chiasmus/api"
)

func stream() []api.Decl {
	l := slices.Clone(core().Decls)
	return append(l, api.Decl{Name: "stream", Codata: true, Xtors: []api.Xtor{{Name: "Tail", Args: []api.Arg{{Type: 2, Co: true}}}}})
}

func TestNewPolarities(t *testing.T) {
	if p := NewPolarities(stream()); !slices.Equal(p, []bool{true, true, false}) {
		t.Error(p)
	}
	if p := NewPolarities(nil); !slices.Equal(p, []bool{true}) {
		t.Error(p)
	}
}

func TestFocused(t *testing.T) {
	typed := func(typ int, n api.Node) api.Node {
		n.Type = typ
		return n
	}
	tail := func(c api.Node) api.Node { return api.Node{Op: api.CXtor, Type: 2, Args: []api.Node{c}} }
	box := func(l ...api.Node) api.Node { return api.Node{Op: api.PXtor, Type: 1, Args: l} }
	call := func(l ...api.Node) api.Node { return api.Node{Op: api.KCall, Args: l} }
	end := done(num(1))
	p := NewPolarities(stream())
	for name, c := range map[string]struct {
		n    api.Node
		runs bool // it is serious itself, if it is an argument
		want bool // it is focused
	}{
		"an integer":                {num(1), false, true},
		"a mu":                      {mu(0, end), true, true},
		"a comu":                    {comu(0, end), false, true},
		"a mu of data":              {typed(1, mu(0, end)), true, true},
		"a mu of codata":            {typed(2, mu(0, end)), false, true},
		"a comu of codata":          {typed(2, comu(0, end)), true, true},
		"an argument":               {done(mu(0, end)), false, false},
		"no argument":               {cut(mu(0, end), comu(0, end)), false, true},
		"the other polarity":        {call(typed(2, mu(0, end)), comu(0, end)), false, true},
		"a consumer":                {call(typed(2, comu(0, end))), false, false},
		"in a destructor":           {call(tail(tail(typed(2, comu(0, end))))), false, false},
		"in a constructor":          {cut(box(box(mu(0, end))), a(1)), false, false},
		"in what does not run":      {call(typed(2, mu(0, done(mu(0, end))))), false, false},
		"in a later argument":       {call(num(1), num(2), typed(1, mu(0, end))), false, false},
		"a command":                 {api.Node{Op: api.KEmit, Args: []api.Node{num(1), end}}, false, true},
		"in a command":              {api.Node{Op: api.KEmit, Args: []api.Node{num(1), done(mu(0, end))}}, false, false},
		"in a branch":               {api.Node{Op: api.CMatch, Branches: []api.Branch{{Body: end}, {Body: done(mu(0, end))}}}, false, false},
		"a consumer of an operator": {api.Node{Op: api.KPrim, Args: []api.Node{num(1), num(2), comu(0, end)}}, false, true},
	} {
		if p.Runs(c.n) != c.runs || p.Focused(c.n) != c.want {
			t.Errorf("%s: %v %v", name, p.Runs(c.n), p.Focused(c.n))
		}
	}
}
