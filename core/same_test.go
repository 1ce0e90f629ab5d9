package core_test

import (
	"slices"
	"testing"

	"chiasmus/api"
	"chiasmus/core"
	"chiasmus/sample"
)

func TestP6_4Same(t *testing.T) {
	for _, c := range []struct {
		name string
		a, b api.Node
		want bool
	}{
		{"the second example", comu(0, 0, done(x(0))), comu(7, 0, done(x(7))), true},
		{"free variables", x(0), x(1), false},
		{"free consumer variables", a(0), a(1), false},
		{"other sorts", x(0), a(0), false},
		{"integers", num(3), num(-3), false},
		{"free and bound", comu(0, 0, x(0)), comu(1, 0, x(0)), false},
		{"bound and free", comu(1, 0, x(0)), comu(0, 0, x(0)), false},
		{"captured", mu(0, 0, cut(0, x(1), a(0))), mu(9, 0, cut(0, x(1), a(0))), false},
		{"captured in both", mu(9, 0, cut(0, x(1), a(0))), mu(0, 0, cut(0, x(1), a(0))), false},
		{"the outer or the inner one", comu(0, 0, comu(1, 0, x(0))), comu(0, 0, comu(1, 0, x(1))), false},
		{"exchanged numbers", comu(0, 0, comu(1, 0, node(99, x(0), x(1)))), comu(1, 0, comu(0, 0, node(99, x(1), x(0)))), true},
		{"shadowed", comu(0, 0, comu(0, 0, x(0))), comu(0, 0, comu(1, 0, x(1))), true},
		{"shadowed, but used", comu(0, 0, comu(0, 0, x(0))), comu(0, 0, comu(1, 0, x(0))), false},
		{"unused ones", comu(0, 0, done(num(1))), comu(5, 0, done(num(1))), true},
		{"positions in a branch", match(0, branch(x(0), 1, 2)), match(0, branch(x(0), 2, 1)), false},
		{"numbers in a branch", match(0, branch(node(99, x(0), a(0)), 1, -1)), match(0, branch(node(99, x(5), a(4)), 6, -5)), true},
		{"sorts in a branch", match(0, branch(num(1), 1, -1)), match(0, branch(num(1), -1, 1)), false},
		{"more variables in a branch", match(0, branch(num(1), 1)), match(0, branch(num(1), 1, 2)), false},
		{"a doubled number", match(0, branch(x(0), 1, 1)), match(0, branch(x(1), 1, 2)), true},
		{"the first of a doubled number", match(0, branch(x(0), 1, 1)), match(0, branch(x(0), 1, 2)), false},
		{"a missing Co", match(0, api.Branch{Vars: []int{3}, Body: x(3)}), match(0, branch(x(1), 2)), true},
		{"more Co than Vars", match(0, api.Branch{Vars: []int{3}, Co: []bool{false, true}, Body: x(3)}), match(0, branch(x(1), 2)), true},
		{"Args and Branches", node(99, x(1)), with(node(99), branch(x(1))), false},
		{"more Args", node(99, x(1)), node(99, x(1), x(1)), false},
		{"more Branches", with(node(99), branch(x(1))), with(node(99), branch(x(1)), branch(x(1))), false},
		{"unknown operators", node(99), node(98), false},
		{"a mu without a command", typed(0, 1, node(api.PMu)), typed(0, 2, node(api.PMu)), true},
		{"several Args of a mu", typed(0, 1, node(api.PMu, a(1), a(1))), typed(0, 2, node(api.PMu, a(2), a(2))), true},
		{"several Args of another mu", typed(0, 1, node(api.PMu, a(1), a(1))), typed(0, 2, node(api.PMu, a(2), a(1))), false},
		{"a mu does not bind in its Branches", with(typed(0, 1, node(api.PMu)), branch(a(1))), with(typed(0, 2, node(api.PMu)), branch(a(1))), true},
		{"the free variables of its Branches", with(typed(0, 1, node(api.PMu)), branch(a(1))), with(typed(0, 2, node(api.PMu)), branch(a(2))), false},
	} {
		if core.Same(c.a, c.b) != c.want || core.Same(c.b, c.a) != c.want {
			t.Errorf("%s: not %v", c.name, c.want)
		}
		if !core.Same(c.a, c.a) || !core.Same(c.b, c.b) {
			t.Errorf("%s: not equivalent to itself", c.name)
		}
	}
}

// Same compares N and Type where the operator uses them, and nowhere else.
func TestP6_4Fields(t *testing.T) {
	usesN := []int{api.PVar, api.PInt, api.PXtor, api.CVar, api.CXtor, api.KPrim, api.KCall}
	usesType := []int{api.PXtor, api.PMu, api.PMatch, api.CXtor, api.CMu, api.CMatch, api.KCut}
	for op := -2; op < 25; op++ {
		leaf := op == api.PVar || op == api.CVar || op == api.PInt
		n := api.Node{Op: op, N: 1, Type: 1}
		for _, c := range []struct {
			name string
			m    api.Node
			want bool
		}{
			{"another N", api.Node{Op: op, N: 2, Type: 1}, !slices.Contains(usesN, op)},
			{"another Type", api.Node{Op: op, N: 1, Type: 2}, !slices.Contains(usesType, op)},
			{"another Op", api.Node{Op: op + 1, N: 1, Type: 1}, false},
			{"Args", api.Node{Op: op, N: 1, Type: 1, Args: []api.Node{num(1)}}, leaf},
			{"Branches", api.Node{Op: op, N: 1, Type: 1, Branches: []api.Branch{branch(num(1))}}, leaf},
		} {
			if core.Same(n, c.m) != c.want || core.Same(node(99, n), node(99, c.m)) != c.want {
				t.Errorf("operator %d, %s: not %v", op, c.name, c.want)
			}
		}
	}
}

func TestP6_4AgainstTheReference(t *testing.T) {
	var s sample.Numbers = 4
	equivalent := 0
	for range 10000 {
		n := wild(&s, 1+s.Below(5))
		m := other(n, 1000)
		if !core.Same(n, m) || !core.Same(m, n) || !core.Same(n, n) {
			t.Fatalf("%v is not equivalent to %v", n, m)
		}
		sample.DisturbNode(&s, &m)
		want := same(n, m)
		if core.Same(n, m) != want || core.Same(m, n) != want {
			t.Fatalf("%v and %v: not %v", n, m, want)
		}
		if want {
			equivalent++
		}
	}
	if equivalent < 500 || equivalent > 9500 {
		t.Error(equivalent)
	}
}

func TestP6_4Deep(t *testing.T) {
	nodes := deep()
	for name, n := range nodes {
		if !core.Same(n, n) || core.Same(n, nodes["mus"]) != (name == "mus") {
			t.Error(name)
		}
	}
	if !core.Same(nodes["comus"], nodes["equal"]) {
		t.Error("unused variables")
	}
	const depth = 1 << 16
	n := chain(depth, x(1), func(i int, n api.Node) api.Node { return comu(i, 0, n) })
	m := chain(depth, x(7), func(i int, n api.Node) api.Node { return comu(i+6, 0, n) })
	if !core.Same(n, m) || core.Same(n, nodes["comus"]) {
		t.Error("bound at the depth of 2^16")
	}
}

func equals(t *testing.T, name string, c, d api.Core, want bool) {
	t.Helper()
	for _, l := range [][2]api.Core{{c, d}, {d, c}} {
		if b, e := core.Equal(l[0], l[1]); b != want || e != api.OK {
			t.Errorf("%s: %v %d, not %v", name, b, e, want)
		}
	}
}

func TestP6_4Equal(t *testing.T) {
	first := mains("cut(int, x0, comu(x1 : int, done(x1)))")
	for _, c := range []struct {
		name, second string
		want         bool
	}{
		{"itself", first, true},
		{"other numbers", mains("cut(int, x0, comu(x0 : int, done(x0)))"), true},
		{"another body", mains("cut(int, 1, comu(x0 : int, done(x0)))"), false},
		{"other parameters' numbers", declText + "fun main(x7 : int) = cut(int, x7, comu(x1 : int, done(x1)));\nfun f(x1 : list, a7 : int, x0 : int) = done(x0);\n", true},
		{"other parameters", declText + "fun main(x7 : int) = cut(int, x7, comu(x1 : int, done(x1)));\nfun f(x1 : list, a7 : int, x0 : int) = done(x1);\n", false},
		{"another type of a parameter", declText + "fun main(x0 : int) = cut(int, x0, comu(x1 : int, done(x1)));\nfun f(x0 : mixed, a0 : int, x1 : int) = done(x1);\n", false},
		{"another sort of a parameter", declText + "fun main(x0 : int) = cut(int, x0, comu(x1 : int, done(x1)));\nfun f(x0 : list, x2 : int, x1 : int) = done(x1);\n", false},
		{"another name of a function", declText + "fun main(x0 : int) = cut(int, x0, comu(x1 : int, done(x1)));\nfun g(x0 : list, a0 : int, x1 : int) = done(x1);\n", false},
		{"fewer functions", declText + "fun main(x0 : int) = cut(int, x0, comu(x1 : int, done(x1)));\n", false},
		{"more functions", first + "fun g() = done(1);\n", false},
		{"another order", declText + "fun f(x0 : int) = cut(int, x0, comu(x1 : int, done(x1)));\nfun main(x0 : list, a0 : int, x1 : int) = done(x1);\n", false},
	} {
		equals(t, c.name, parsed(t, first), parsed(t, c.second), c.want)
	}
}

func TestP6_4EqualDeclarations(t *testing.T) {
	c := program(t, done(num(1)))
	for name, change := range map[string]func(l []api.Decl){
		"a name":           func(l []api.Decl) { l[1].Name = "other" },
		"codata":           func(l []api.Decl) { l[2].Codata = true },
		"an xtor":          func(l []api.Decl) { l[3].Xtors[1].Name = "Other" },
		"more xtors":       func(l []api.Decl) { l[3].Xtors = append(l[3].Xtors, api.Xtor{Name: "Other"}) },
		"more arguments":   func(l []api.Decl) { l[0].Xtors[0].Args = []api.Arg{{}} },
		"a type":           func(l []api.Decl) { l[0].Xtors[1].Args[0].Type = 1 },
		"a consumer":       func(l []api.Decl) { l[0].Xtors[1].Args[0].Co = true },
		"the order":        func(l []api.Decl) { l[0], l[1] = l[1], l[0] },
		"exchanged xtors":  func(l []api.Decl) { l[0].Xtors[0], l[0].Xtors[1] = l[0].Xtors[1], l[0].Xtors[0] },
		"exchanged types":  func(l []api.Decl) { l[2].Name, l[3].Name = l[3].Name, l[2].Name },
		"exchanged values": func(l []api.Decl) { l[2], l[3] = l[3], l[2] },
	} {
		d := program(t, done(num(1)))
		change(d.Decls)
		equals(t, name, c, d, false)
	}
	d := program(t, done(num(1)))
	d.Decls = append(d.Decls, api.Decl{Name: "more", Xtors: []api.Xtor{{Name: "More"}}})
	equals(t, "more declarations", c, d, false)
	empty := program(t, done(num(1)))
	empty.Decls[0].Xtors[0].Args = []api.Arg{}
	empty.Funs[0].Body.Branches = []api.Branch{}
	equals(t, "empty slices", c, empty, true)
}

func TestP6_4EqualAgainstTheReference(t *testing.T) {
	var s sample.Numbers = 5
	equivalent := 0
	for _, c := range made(t, 6, 9, 3000) {
		d := api.Core{Decls: c.Decls}
		for _, f := range c.Funs {
			f.Body = other(f.Body, 1000)
			d.Funs = append(d.Funs, f)
		}
		equals(t, "renamed", c, d, true)
		body := &d.Funs[s.Below(2)].Body
		sample.DisturbNode(&s, body)
		if core.Check(d) != api.OK {
			continue
		}
		want := true
		for i, f := range c.Funs {
			want = want && same(f.Body, d.Funs[i].Body)
		}
		equals(t, "disturbed", c, d, want)
		if want {
			equivalent++
		}
	}
	if equivalent < 20 {
		t.Error(equivalent)
	}
}

// Equivalence is preserved by substitution, also of equivalent nodes.
func TestP6_7Equivalence(t *testing.T) {
	var s sample.Numbers = 7
	for range 10000 {
		n := wild(&s, 1+s.Below(5))
		xs, ps := wildLists(&s)
		as, cs := wildLists(&s)
		var qs, ds []api.Node
		for _, p := range ps {
			qs = append(qs, other(p, 1000))
		}
		for _, c := range cs {
			ds = append(ds, other(c, 2000))
		}
		one, e := core.Subst(n, xs, ps, as, cs)
		two, f := core.Subst(other(n, 1500), xs, qs, as, ds)
		if e != api.OK || f != api.OK || !core.Same(one, two) {
			t.Fatalf("%v %d, %v %d", one, e, two, f)
		}
	}
}

// Substituting for variables that are not free changes nothing.
func TestP6_7NotFree(t *testing.T) {
	var s sample.Numbers = 8
	for range 10000 {
		n := wild(&s, 1+s.Below(5))
		var xs, as []int
		var ps, cs []api.Node
		free, labels := core.Free(n)
		for _, i := range []int{0, 1, 2, 3, 4, api.MaxVar, -1} {
			if !slices.Contains(free, i) {
				xs, ps = append(xs, i), append(ps, wild(&s, 3))
			}
			if !slices.Contains(labels, i) {
				as, cs = append(as, i), append(cs, wild(&s, 3))
			}
		}
		if m, e := core.Subst(n, xs, ps, as, cs); e != api.OK || !core.Same(m, n) {
			t.Fatalf("%v: %v %d", n, m, e)
		}
	}
}

func TestP6_8FreeVariables(t *testing.T) {
	var s sample.Numbers = 9
	for range 10000 {
		n := wild(&s, 1+s.Below(5))
		xs, ps := wildLists(&s)
		as, cs := wildLists(&s)
		m, e := core.Subst(n, xs, ps, as, cs)
		if e != api.OK {
			t.Fatal(e)
		}
		freeXs, freeAs := core.Free(n)
		freeXs = slices.DeleteFunc(freeXs, func(i int) bool { return slices.Contains(xs, i) })
		freeAs = slices.DeleteFunc(freeAs, func(i int) bool { return slices.Contains(as, i) })
		for _, p := range slices.Concat(ps, cs) {
			ys, bs := core.Free(p)
			freeXs, freeAs = append(freeXs, ys...), append(freeAs, bs...)
		}
		gotXs, gotAs := core.Free(m)
		for _, i := range gotXs {
			if !slices.Contains(freeXs, i) {
				t.Fatalf("x%d is free in %v", i, m)
			}
		}
		for _, i := range gotAs {
			if !slices.Contains(freeAs, i) {
				t.Fatalf("a%d is free in %v", i, m)
			}
		}
	}
}
