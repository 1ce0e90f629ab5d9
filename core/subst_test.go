package core_test

import (
	"fmt"
	"math"
	"reflect"
	"slices"
	"testing"

	"chiasmus/api"
	"chiasmus/core"
	"chiasmus/sample"
)

// same compares with the reference, not with Same.
func same(a, b api.Node) bool {
	return shown(a, nil) == shown(b, nil)
}

func TestP6_3Subst(t *testing.T) {
	first := mu(5, 0, cut(0, num(3), a(0)))
	one, two := []int{1}, []int{1, 2}
	for _, c := range []struct {
		name    string
		n, want api.Node
		xs      []int
		ps      []api.Node
		as      []int
		cs      []api.Node
	}{
		{"the first example", mu(0, 0, cut(0, x(1), a(0))), mu(1, 0, cut(0, first, a(1))), one, []api.Node{first}, nil, nil},
		{"nothing", done(x(1)), done(x(1)), nil, nil, nil, nil},
		{"a variable", x(1), num(2), one, []api.Node{num(2)}, nil, nil},
		{"a consumer variable", a(1), comu(0, 0, done(x(0))), nil, nil, one, []api.Node{comu(0, 0, done(x(0)))}},
		{"the other sort", done(x(1)), done(x(1)), nil, nil, one, []api.Node{num(2)}},
		{"the other sort again", done(a(1)), done(a(1)), one, []api.Node{num(2)}, nil, nil},
		{"each occurrence", node(api.KCall, x(1), a(1), x(1), a(1)), node(api.KCall, num(2), a(7), num(2), a(7)), one, []api.Node{num(2)}, one, []api.Node{a(7)}},
		{"at the same time", node(api.KCall, x(1), x(2)), node(api.KCall, x(2), x(1)), two, []api.Node{x(2), x(1)}, nil, nil},
		{"not again", node(api.KCall, x(1), a(1)), node(api.KCall, a(1), x(1)), one, []api.Node{a(1)}, one, []api.Node{x(1)}},
		{"not a bound one", comu(1, 0, done(x(1))), comu(1, 0, done(x(1))), one, []api.Node{num(2)}, nil, nil},
		{"below another sort's binder", mu(1, 0, done(x(1))), mu(1, 0, done(num(2))), one, []api.Node{num(2)}, nil, nil},
		{"not one that a branch binds", match(0, branch(node(api.KCall, x(1), a(1)), 2)), match(0, branch(node(api.KCall, x(1), num(3)), 2)), one, []api.Node{num(2)}, one, []api.Node{num(3)}},
		{"captured by a comu", comu(2, 0, node(api.KCall, x(1), x(2))), comu(9, 0, node(api.KCall, x(2), x(9))), one, []api.Node{x(2)}, nil, nil},
		{"captured by a branch", match(0, branch(node(api.KCall, x(1), x(2), a(2), a(1)), 3, -3)), match(0, branch(node(api.KCall, x(2), x(8), a(9), a(2)), 9, -10)), one, []api.Node{x(2)}, one, []api.Node{a(2)}},
		{"captured further outside", comu(2, 0, mu(3, 0, cut(0, x(1), a(3)))), comu(4, 0, mu(0, 0, cut(0, node(99, x(2), a(3)), a(0)))), one, []api.Node{node(99, x(2), a(3))}, nil, nil},
		{"captured by a new number", comu(2, 0, comu(0, 0, node(api.KCall, x(0), x(1), x(2), x(3)))), comu(8, 0, comu(9, 0, node(api.KCall, x(9), node(99, x(0), x(2), x(4)), x(8), x(3)))), one, []api.Node{node(99, x(0), x(2), x(4))}, nil, nil},
		{"a bound one that is not replaced", comu(2, 0, x(1)), comu(3, 0, x(2)), one, []api.Node{x(2)}, nil, nil},
		{"twice bound in a branch", with(node(99), branch(node(99, x(4), x(1)), 5, 5)), with(node(99), branch(node(99, x(9), x(4)), 9, 10)), one, []api.Node{x(4)}, nil, nil},
		{"several Args of a mu", typed(0, 2, node(api.PMu, a(1), a(2), a(2))), typed(0, 3, node(api.PMu, a(2), a(3), a(3))), nil, nil, one, []api.Node{a(2)}},
		{"Args and Branches of a mu", with(typed(0, 2, node(api.PMu, a(1), a(2))), branch(a(2), -2)), with(typed(0, 3, node(api.PMu, a(2), a(3))), branch(a(2), -2)), nil, nil, one, []api.Node{a(2)}},
		{"a missing Co", with(node(99), api.Branch{Vars: []int{2}, Body: node(99, x(2), x(1))}), with(node(99), branch(node(99, x(3), x(2)), 4)), one, []api.Node{x(2)}, nil, nil},
		{"unknown operators", node(99, node(-5, x(1))), node(99, node(-5, num(2))), one, []api.Node{num(2)}, nil, nil},
		{"numbers out of range", node(99, x(-4), a(math.MaxInt)), node(99, num(1), num(2)), []int{-4}, []api.Node{num(1)}, []int{math.MaxInt}, []api.Node{num(2)}},
	} {
		n, e := core.Subst(c.n, c.xs, c.ps, c.as, c.cs)
		if !same(n, c.want) || e != api.OK {
			t.Errorf("%s: %v %d, not %v", c.name, n, e, c.want)
		}
	}
}

func TestP6_3ErrArg(t *testing.T) {
	large := node(api.KCall, make([]api.Node, api.MaxCore)...)
	for _, c := range []struct {
		name   string
		n      api.Node
		xs, as []int
		ps, cs int
	}{
		{"fewer producers", x(1), []int{1}, nil, 0, 0},
		{"more producers", x(1), nil, nil, 1, 0},
		{"fewer consumers", x(1), nil, []int{1}, 0, 0},
		{"more consumers", x(1), nil, nil, 0, 1},
		{"as many together", x(1), []int{1, 2}, []int{3}, 1, 2},
		{"a producer variable twice", x(1), []int{1, 2, 1}, nil, 3, 0},
		{"a consumer variable twice", x(1), nil, []int{-2, -2}, 0, 2},
		{"before ErrLarge", large, []int{1, 1}, nil, 2, 0},
		{"before ErrLarge again", large, nil, []int{1}, 0, 0},
	} {
		n, e := core.Subst(c.n, c.xs, make([]api.Node, c.ps), c.as, make([]api.Node, c.cs))
		if e != api.ErrArg || !reflect.DeepEqual(n, api.Node{}) {
			t.Errorf("%s: %v %d", c.name, n, e)
		}
	}
}

// bush returns a node with n nodes, of which count are the variable x1.
func bush(n, count int) api.Node {
	out := node(api.KCall)
	for i := range n - 1 {
		if i < count {
			out.Args = append(out.Args, x(1))
		} else {
			out.Args = append(out.Args, num(i))
		}
	}
	return out
}

func TestP6_3ErrLarge(t *testing.T) {
	const most = api.MaxCore
	for _, c := range []struct {
		name string
		n, p api.Node
		want api.Errno
	}{
		{"as large as permitted", bush(most, 0), num(1), api.OK},
		{"too large, with nothing replaced", bush(most+1, 0), num(1), api.ErrLarge},
		{"as large, with replaced variables", bush(most, 99), num(1), api.OK},
		{"larger by one", bush(most, 1), done(num(1)), api.ErrLarge},
		{"as large by one", bush(most-1, 1), done(num(1)), api.OK},
		{"as large by many", bush(most-500, 100), bush(6, 0), api.OK},
		{"too large by many", bush(most-499, 100), bush(6, 0), api.ErrLarge},
		{"far too large", bush(most, most-1), bush(most, 0), api.ErrLarge},
		{"one that is too large", bush(2, 1), bush(most+1, 0), api.ErrLarge},
		{"one that does not occur", bush(2, 0), bush(most+1, 0), api.OK},
		{"one that is bound", comu(1, 0, bush(2, 1)), bush(most+1, 0), api.OK},
		{"just one", x(1), bush(most, 0), api.OK},
		{"just one that is too large", x(1), bush(most+1, 0), api.ErrLarge},
	} {
		n, e := core.Subst(c.n, []int{1}, []api.Node{c.p}, nil, nil)
		if e != c.want || e != api.OK && !reflect.DeepEqual(n, api.Node{}) {
			t.Errorf("%s: %d, not %d", c.name, e, c.want)
		}
		if _, f := core.Subst(node(99, c.n), nil, nil, nil, nil); c.want == api.OK && c.name == "as large as permitted" && f != api.ErrLarge {
			t.Errorf("%s, in another node: %d", c.name, f)
		}
	}
}

// What is shared within an argument counts each time: such a node may be far too large to be looked at.
func TestP6_3ErrLargeOfShared(t *testing.T) {
	n := x(1)
	for range 200 {
		n = node(api.KCall, n, n)
	}
	for _, l := range [][2]api.Node{{n, num(1)}, {x(1), n}} {
		if m, e := core.Subst(l[0], []int{1}, []api.Node{l[1]}, nil, nil); e != api.ErrLarge || !reflect.DeepEqual(m, api.Node{}) {
			t.Errorf("%v %d", m, e)
		}
	}
}

// The depth of the result is not limited.
func TestP6_3Deep(t *testing.T) {
	half := func(n api.Node) api.Node {
		return chain(api.MaxCore/2, n, func(i int, n api.Node) api.Node { return comu(i%3, 0, n) })
	}
	n, e := core.Subst(half(x(7)), []int{7}, []api.Node{half(x(2))}, nil, nil)
	if nodes, depth := core.Size(n); e != api.OK || nodes != api.MaxCore-1 || depth != api.MaxCore-1 {
		t.Errorf("%d %d %d", nodes, depth, e)
	}
	if xs, _ := core.Free(n); len(xs) != 0 {
		t.Error(xs)
	}
	m, e := core.Subst(half(x(7)), []int{7}, []api.Node{done(x(2))}, nil, nil)
	if xs, _ := core.Free(m); e != api.OK || !slices.Equal(xs, []int{2}) {
		t.Error(xs, e)
	}
}

// wildLists returns what Subst may replace in wild nodes.
func wildLists(s *sample.Numbers) (xs []int, ps []api.Node) {
	l := []int{0, 1, 2, 3, api.MaxVar}
	for range s.Below(4) {
		i := s.Below(len(l))
		xs, ps = append(xs, l[i]), append(ps, wild(s, 1+s.Below(3)))
		l = slices.Delete(l, i, i+1)
	}
	return xs, ps
}

func inRange(n int) bool {
	return 0 <= n && n <= api.MaxVar
}

func TestP6_3AgainstTheReference(t *testing.T) {
	var s sample.Numbers = 2
	changed, bound := 0, 0
	for range 30000 {
		n := wild(&s, 1+s.Below(5))
		xs, ps := wildLists(&s)
		as, cs := wildLists(&s)
		want := replaced(n, xs, ps, as, cs)
		got, e := core.Subst(n, xs, ps, as, cs)
		if nodes, _ := measure(want); nodes > api.MaxCore {
			t.Fatal("the nodes are too large")
		}
		if !same(got, want) || e != api.OK {
			t.Fatalf("%v %v %v %v %v: %v %d, not %v", n, xs, ps, as, cs, got, e, want)
		}
		if i := slices.IndexFunc(binders(got), func(n int) bool { return !inRange(n) }); i >= 0 {
			t.Fatalf("%v %v %v %v %v: a number is out of range: %v", n, xs, ps, as, cs, got)
		}
		if shown(n, nil) != shown(got, nil) {
			changed++
		}
		bound += len(binders(n))
	}
	if changed < 5000 || bound < 50000 {
		t.Error(changed, bound)
	}
}

// Numbers of bound variables stay in their range, whatever the free ones are, and however many there are.
func TestP6_3Numbers(t *testing.T) {
	n := node(api.KCall)
	for i := range 20000 {
		n.Args = append(n.Args, x(i))
	}
	for _, i := range []int{-1, math.MinInt, math.MaxInt, api.MaxVar, api.MaxVar + 1} {
		n.Args = append(n.Args, x(i))
	}
	m := chain(100, node(99, n, x(5), a(6)), func(i int, n api.Node) api.Node {
		return match(0, branch(n, i, -i, i+200))
	})
	got, e := core.Subst(m, []int{19999}, []api.Node{node(99, x(1), x(20000), x(api.MaxVar-1))}, []int{1 << 30}, []api.Node{num(1)})
	if e != api.OK {
		t.Fatal(e)
	}
	for _, i := range binders(got) {
		if !inRange(i) {
			t.Fatalf("%d is out of range", i)
		}
	}
	want := replaced(m, []int{19999}, []api.Node{node(99, x(1), x(20000), x(api.MaxVar-1))}, nil, nil)
	if !same(got, want) {
		t.Error("the result is not correct")
	}
}

// There are enough numbers for all variables that fit into a node.
func TestP6_3ManyNumbers(t *testing.T) {
	n := chain(api.MaxCore/3, x(0), func(i int, n api.Node) api.Node { return comu(i, 0, node(99, n, x(i))) })
	got, e := core.Subst(n, nil, nil, nil, nil)
	if e != api.OK {
		t.Fatal(e)
	}
	seen := map[int]bool{}
	for _, i := range binders(got) {
		if !inRange(i) {
			t.Fatalf("%d is out of range", i)
		}
		seen[i] = true
	}
	if len(seen) != api.MaxCore/3-1 {
		t.Errorf("%d different numbers", len(seen))
	}
}

// A branch may bind all numbers there are, so that a new one is nowhere to be found for a variable that does not occur.
func TestP6_3AllNumbers(t *testing.T) {
	b := branch(node(99, x(5), x(-1), x(7), a(3)))
	for i := range api.MaxVar + 1 {
		b.Vars = append(b.Vars, i)
	}
	for i := range api.MaxVar + 1 {
		b.Vars = append(b.Vars, i)
		b.Co = append(b.Co, false)
	}
	for range api.MaxVar + 1 {
		b.Co = append(b.Co, true)
	}
	n := with(node(99), b)
	got, e := core.Subst(n, []int{-1}, []api.Node{node(99, x(5), x(0), a(3), x(api.MaxVar))}, nil, nil)
	if e != api.OK {
		t.Fatal(e)
	}
	c := got.Branches[0]
	if i := slices.IndexFunc(c.Vars, func(n int) bool { return !inRange(n) }); i >= 0 {
		t.Fatalf("%d is out of range", c.Vars[i])
	}
	where := func(n api.Node) int {
		last := -1
		for i, v := range c.Vars {
			if v == n.N && c.Co[i] == (n.Op == api.CVar) {
				last = i
			}
		}
		return last
	}
	l := c.Body.Args
	if where(l[0]) != 5 || where(l[2]) != 7 || where(l[3]) != api.MaxVar+1+3 {
		t.Errorf("%d %d %d", where(l[0]), where(l[2]), where(l[3]))
	}
	if got := fmt.Sprint(core.Free(got)); got != fmt.Sprintf("[0 5 %d] [3]", api.MaxVar) {
		t.Error(got)
	}
}

// closing binds the free variables of a command.
func closing(n api.Node) api.Node {
	xs, as := core.Free(n)
	for _, i := range xs {
		n = cut(0, num(1), comu(i, 0, n))
	}
	for _, i := range as {
		n = cut(0, mu(i, 0, n), comu(0, 0, done(x(0))))
	}
	return n
}

// What is substituted in valid nodes is valid: the variables that a branch binds remain distinct.
func TestP6_3ValidResults(t *testing.T) {
	var s sample.Numbers = 3
	p := program(t, done(num(0)))
	m := sample.NewCoreMaker(p, &s, 9)
	l := []sample.Variable{{N: 0}, {N: 1, Arg: api.Arg{Type: list}}, {N: 0, Arg: api.Arg{Co: true}}, {N: 1, Arg: api.Arg{Type: fn, Co: true}}}
	for range 5000 {
		k := m.Command(1+s.Below(6), l)
		ps := []api.Node{m.Producer(3, 0, l), m.Producer(3, list, l)}
		cs := []api.Node{m.Consumer(3, 0, l), m.Consumer(3, fn, l)}
		got, e := core.Subst(k, []int{0, 1}, ps, []int{0, 1}, cs)
		want := replaced(k, []int{0, 1}, ps, []int{0, 1}, cs)
		if nodes, _ := measure(want); nodes > api.MaxCore {
			continue
		}
		if e != api.OK || !same(got, want) {
			t.Fatalf("%v %d, not %v", got, e, want)
		}
		p.Funs[0].Body = closing(got)
		if e := core.Check(p); e != api.OK {
			t.Fatalf("%v is not valid", got)
		}
	}
}

// Results share no memory with arguments, nor with other parts of results (R4).
func TestR4SubstMemory(t *testing.T) {
	n := match(0, branch(node(api.KCall, x(1), x(1), con(list, 1, num(1), a(1))), 3, -3), branch(mu(0, 0, x(1)), 4))
	p := object(0, branch(con(list, 1, num(7)), 1, -1))
	ps, cs := []api.Node{p}, []api.Node{p}
	before := shown(n, nil) + shown(p, nil)
	got, _ := core.Subst(n, []int{1}, ps, []int{1}, cs)
	other, _ := core.Subst(n, []int{1}, ps, []int{1}, cs)
	want := replaced(n, []int{1}, ps, []int{1}, cs)
	seen := map[any]bool{}
	each(&got, func(m *api.Node) {
		for i := range m.Args {
			seen[&m.Args[i]] = true
		}
		for i := range m.Branches {
			seen[&m.Branches[i]] = true
			for j := range m.Branches[i].Vars {
				seen[&m.Branches[i].Vars[j]] = true
				seen[&m.Branches[i].Co[j]] = true
			}
		}
	})
	count := 0
	each(&got, func(m *api.Node) {
		count += len(m.Args) + len(m.Branches)
		for _, b := range m.Branches {
			count += 2 * len(b.Vars)
		}
	})
	if len(seen) != count {
		t.Errorf("%d of %d places are different", len(seen), count)
	}
	each(&got, func(m *api.Node) {
		m.Op = 99
		for _, b := range m.Branches {
			clear(b.Vars)
			clear(b.Co)
		}
	})
	if shown(n, nil)+shown(p, nil) != before || !same(other, want) {
		t.Error("a change of the result changed something else")
	}
}

// each calls f for all nodes of n, children first.
func each(n *api.Node, f func(*api.Node)) {
	for i := range n.Args {
		each(&n.Args[i], f)
	}
	for i := range n.Branches {
		each(&n.Branches[i].Body, f)
	}
	f(n)
}

// Elements beyond the length of a slice are neither read nor written (R4).
func TestR4SubstCapacity(t *testing.T) {
	args := []api.Node{x(1), x(1), x(1)}
	vars, co := []int{1, 2, 3}, []bool{true, false, true}
	n := with(node(99, args[:1]...), api.Branch{Vars: vars[:1], Co: co[:1], Body: node(99, args[:2]...)})
	n.Args = args[:1]
	got, e := core.Subst(n, []int{1, 2}[:1], []api.Node{num(4), num(5)}[:1], nil, nil)
	want := with(node(99, num(4)), branch(node(99, num(4), num(4)), -9))
	if e != api.OK || !same(got, want) {
		t.Errorf("%v %d", got, e)
	}
	if !reflect.DeepEqual(args, []api.Node{x(1), x(1), x(1)}) || !slices.Equal(vars, []int{1, 2, 3}) || !slices.Equal(co, []bool{true, false, true}) {
		t.Error("an argument was changed")
	}
}
