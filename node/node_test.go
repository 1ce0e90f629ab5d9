package node

import (
	"slices"
	"strconv"
	"testing"

	"chiasmus/api"
)

func x(n int) api.Node   { return api.Node{Op: api.PVar, N: n} }
func a(n int) api.Node   { return api.Node{Op: api.CVar, N: n} }
func num(n int) api.Node { return api.Node{Op: api.PInt, N: n} }

func done(p api.Node) api.Node { return api.Node{Op: api.KDone, Args: []api.Node{p}} }

func cut(p, c api.Node) api.Node { return api.Node{Op: api.KCut, Args: []api.Node{p, c}} }

func mu(n int, k api.Node) api.Node { return api.Node{Op: api.PMu, N: n, Args: []api.Node{k}} }

func comu(n int, k api.Node) api.Node { return api.Node{Op: api.CMu, N: n, Args: []api.Node{k}} }

// core has a data type of which an xtor takes a consumer, and a function.
func core() api.Core {
	args := []api.Arg{{Type: 1}, {Co: true}, {}}
	return api.Core{
		Decls: []api.Decl{{Name: "box", Xtors: []api.Xtor{{Name: "Box", Args: args}}}},
		Funs:  []api.CoreFun{{Name: "main"}, {Name: "f", Params: args[1:]}},
	}
}

func TestUses(t *testing.T) {
	for op, want := range map[int][2]bool{
		api.PVar: {true, false}, api.PInt: {true, false}, api.PXtor: {true, true}, api.PMu: {true, true}, api.PMatch: {false, true},
		api.CVar: {true, false}, api.CXtor: {true, true}, api.CMu: {true, true}, api.CMatch: {false, true},
		api.KCut: {false, true}, api.KPrim: {true, false}, api.KIfz: {}, api.KEmit: {}, api.KCall: {true, false}, api.KDone: {},
		-1: {}, api.PThunk: {}, 1 << 40: {},
	} {
		if n, typ := Uses(op); n != want[0] || typ != want[1] {
			t.Errorf("%d: %v %v", op, n, typ)
		}
	}
}

func TestBound(t *testing.T) {
	b := api.Branch{Vars: []int{4, 4, 5}, Co: []bool{true}}
	if l := BoundIn(b); !slices.Equal(l, []Variable{{Consumer, 4}, {Producer, 4}, {Producer, 5}}) {
		t.Errorf("branch: %v", l)
	}
	f := AsBranch(api.CoreFun{Params: []api.Arg{{Type: 1}, {Co: true}}, Vars: []int{7, 8}, Body: num(3)})
	if l := BoundIn(f); !slices.Equal(l, []Variable{{Producer, 7}, {Consumer, 8}}) || f.Body.N != 3 {
		t.Errorf("function: %v", l)
	}
	g := api.CoreFun{Params: []api.Arg{{Co: true}, {}}, Vars: []int{7, 8}, Body: cut(x(8), a(7))}
	Fold(Scope{}, Closed(g), func(f Folded[struct{}]) (none struct{}) {
		if _, ok := Occurrence(f.Node); ok && f.By == nil {
			t.Errorf("closed: %v is free", f.Node)
		}
		return none
	})
	for op, want := range map[int][]Variable{api.PMu: {{Consumer, 3}}, api.CMu: {{Producer, 3}}, api.PVar: nil, api.PMatch: nil, 99: nil} {
		if l := BoundInArgs(api.Node{Op: op, N: 3}); !slices.Equal(l, want) {
			t.Errorf("%d: %v", op, l)
		}
	}
}

// A fold shows what binds each variable, from the leaves on.
func TestFold(t *testing.T) {
	n := cut(mu(1, cut(x(1), a(1))), comu(1, cut(x(1), a(1))))
	n.Branches = []api.Branch{{Vars: []int{1, 1}, Co: []bool{true, false}, Body: cut(x(1), a(1))}, {Body: cut(x(1), a(1))}}
	var seen []string
	Fold(Scope{}, n, func(f Folded[struct{}]) (none struct{}) {
		v, ok := Occurrence(f.Node)
		if !ok {
			return none
		}
		s := "free"
		if f.By != nil {
			s = strconv.Itoa(f.By.N)
		}
		seen = append(seen, strconv.Itoa(int(v.Sort))+" "+s)
		return none
	})
	want := []string{"0 free", "1 1", "0 1", "1 free", "0 1", "1 1", "0 free", "1 free"}
	if !slices.Equal(seen, want) {
		t.Errorf("%q", seen)
	}
}

func TestSize(t *testing.T) {
	n := cut(mu(0, done(num(1))), a(0))
	for _, c := range []struct {
		most, deepest int
		ok            bool
	}{{5, 4, true}, {9, 9, true}, {4, 4, false}, {5, 3, false}, {0, 0, false}} {
		nodes, ok := Size(n, c.most, c.deepest)
		if ok != c.ok || ok && nodes != 5 || !ok && nodes != 0 {
			t.Errorf("%v: %d %v", c, nodes, ok)
		}
	}
	if l := slices.Collect(Depths(n)); !slices.Equal(l, []int{1, 2, 3, 4, 2}) {
		t.Errorf("%v", l)
	}
	for range 200 {
		n = cut(n, n)
	}
	if _, ok := Size(n, 1000, 1<<20); ok {
		t.Error("a huge node is not too large")
	}
}

func TestIn(t *testing.T) {
	both := []Variable{{Producer, 3}, {Consumer, 4}, {Producer, -1}, {Consumer, api.MaxVar + 1}}
	box := api.Node{Op: api.PXtor, Type: 1, Args: []api.Node{x(3), a(4), num(1)}}
	for name, c := range map[string]struct {
		n     api.Node
		scope []Variable
		want  Sort
	}{
		"a producer":                {x(3), both, Producer},
		"a consumer":                {a(4), both, Consumer},
		"a command":                 {cut(x(3), a(4)), both, Command},
		"an xtor":                   {box, both, Producer},
		"a call":                    {api.Node{Op: api.KCall, N: 1, Args: []api.Node{a(4), x(3)}}, both, Command},
		"a call of another sort":    {api.Node{Op: api.KCall, N: 1, Args: []api.Node{x(3), a(4)}}, both, Wrong},
		"nothing in scope":          {num(3), nil, Producer},
		"not in scope":              {x(3), nil, Wrong},
		"of the other sort":         {x(4), both, Wrong},
		"a negative number":         {x(-1), both, Wrong},
		"a number too large":        {a(api.MaxVar + 1), both, Wrong},
		"not in scope in the inner": {box, both[:1], Wrong},
		"bound":                     {mu(9, cut(num(1), a(9))), nil, Producer},
		"of a wrong sort":           {cut(a(4), x(3)), both, Wrong},
		"N where it is not used":    {api.Node{Op: api.KDone, N: 1, Args: []api.Node{num(1)}}, nil, Wrong},
		"Type where it is not used": {api.Node{Op: api.PInt, Type: 1}, nil, Wrong},
		"Args of a leaf":            {api.Node{Op: api.PInt, Args: []api.Node{num(1)}}, nil, Wrong},
		"no operator":               {api.Node{Op: api.PThunk}, nil, Wrong},
	} {
		if s := In(core(), c.scope, c.n); s != c.want {
			t.Errorf("%s: %d, not %d", name, s, c.want)
		}
	}
}

func TestBinds(t *testing.T) {
	args := core().Decls[0].Xtors[0].Args
	co := []bool{false, true, false}
	for name, c := range map[string]struct {
		vars []int
		co   []bool
		want bool
	}{
		"distinct":       {[]int{1, 2, 3}, co, true},
		"of both sorts":  {[]int{1, 1, api.MaxVar}, co, true},
		"doubled":        {[]int{1, 2, 1}, co, false},
		"too few":        {[]int{1, 2}, co[:2], false},
		"too many":       {[]int{1, 2, 3, 4}, append(slices.Clone(co), false), false},
		"Co missing":     {[]int{1, 2, 3}, co[:2], false},
		"the other sort": {[]int{1, 2, 3}, []bool{false, true, true}, false},
		"negative":       {[]int{1, -2, 3}, co, false},
		"too large":      {[]int{1, 2, api.MaxVar + 1}, co, false},
		"nothing at all": {nil, nil, false},
	} {
		if got := Binds(api.Branch{Vars: c.vars, Co: c.co}, args); got != c.want {
			t.Errorf("%s: %v", name, got)
		}
	}
}

func TestIsType(t *testing.T) {
	for typ, want := range map[int]bool{-1: false, 0: true, 1: true, 2: false} {
		if IsType(core(), typ) != want {
			t.Error(typ)
		}
	}
}
