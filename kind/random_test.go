package kind_test

import (
	"reflect"
	"testing"

	"chiasmus/api"
	"chiasmus/core"
	"chiasmus/kind"
	"chiasmus/sample"
)

func TestP7_2AgainstTheRelation(t *testing.T) {
	c := program(t, "done(1)")
	g := contextOf(c, scope())
	count := map[api.Errno]int{}
	for _, n := range made(t, 1, 6, 20000) {
		typ, e := kind.Type(c, numbers(), numbers(), types(), n)
		want, expected := g.typeOf(n)
		if typ != want || e != expected {
			t.Fatalf("%v: %d %d, not %d %d", n, typ, e, want, expected)
		}
		count[e]++
	}
	if len(count) != 2 || count[api.OK] < 4000 || count[api.ErrKind] < 4000 {
		t.Error(count)
	}
}

func TestP7_1AgainstTheRelation(t *testing.T) {
	var s sample.Numbers = 2
	m := sample.NewCoreMaker(program(t, "done(1)"), &s, 12)
	count := map[api.Errno]int{}
	for range 4000 {
		c := m.Core(2 + m.Below(4))
		want := api.OK
		for _, f := range c.Funs {
			b := api.Branch{Vars: f.Vars, Body: f.Body}
			if !contextOf(c, nil).branch(b, f.Params).runs(f.Body) {
				want = api.ErrKind
			}
		}
		if e := kind.Check(c); e != want {
			t.Fatalf("%v: %d, not %d", c, e, want)
		}
		count[want]++
	}
	if count[api.OK] < 1000 || count[api.ErrKind] < 1000 {
		t.Error(count)
	}
}

// Type takes for valid exactly what is valid in a program that binds the variables.
func TestP7_2Disturbed(t *testing.T) {
	c := program(t, "done(1)")
	var s sample.Numbers = 3
	count := map[bool]int{}
	for _, n := range made(t, 4, 6, 20000) {
		sample.DisturbNode(&s, &n)
		d := program(t, "done(1)")
		*place(d) = n
		switch {
		case api.PVar <= n.Op && n.Op <= api.PMatch:
			*place(d) = cut(0, n, a(0))
		case api.CVar <= n.Op && n.Op <= api.CMatch:
			*place(d) = cut(0, x(0), n)
		}
		typ, e := kind.Type(c, numbers(), numbers(), types(), n)
		valid := core.Check(d) == api.OK
		if valid == (e == api.ErrArg) || e != api.OK && typ != 0 {
			t.Fatalf("%v: %d %d, valid %v", n, typ, e, valid)
		}
		count[valid]++
	}
	if count[true] < 2000 || count[false] < 5000 {
		t.Error(count)
	}
}

// In the place of variables of their types there may be any producers and consumers, whose variables are in another scope.
func TestP7_3Substitution(t *testing.T) {
	c := program(t, "done(1)")
	var s sample.Numbers = 5
	m := sample.NewCoreMaker(c, &s, 0)
	inner := []sample.Variable{{N: 1}, {N: 0, Arg: api.Arg{Type: list}}, {N: 0, Arg: api.Arg{Type: fn, Co: true}}, {N: 3, Arg: api.Arg{Co: true}}}
	innerTypes := [2][]int{{0, list}, {fn, 0}}
	replaced := 0
	for _, n := range made(t, 6, 0, 4000) {
		want, e := kind.Type(c, numbers(), numbers(), types(), n)
		if e != api.OK {
			t.Fatalf("%v: %d", n, e)
		}
		var ps, cs []api.Node
		for typ := range typeNames() {
			ps = append(ps, m.Producer(1+m.Below(3), typ, inner))
			cs = append(cs, m.Consumer(1+m.Below(3), typ, inner))
		}
		out, e := core.Subst(n, numbers(), ps, numbers(), cs)
		if e == api.ErrLarge {
			continue
		}
		typ, e := kind.Type(c, []int{1, 0}, []int{0, 3}, innerTypes, out)
		if typ != want || e != api.OK {
			t.Fatalf("%v: %d %d, not %d", out, typ, e, want)
		}
		if !core.Same(n, out) {
			replaced++
		}
	}
	if replaced < 2000 {
		t.Error(replaced)
	}
}

// No call changes its arguments (R4), and the same call has the same result each time (R7).
func TestR4R7(t *testing.T) {
	again := made(t, 7, 6, 2000)
	c, kept := program(t, "done(1)"), program(t, "done(1)")
	xs, as, l := numbers(), numbers(), types()
	for i, n := range made(t, 7, 6, 2000) {
		typ, e := kind.Type(c, xs, as, l, n)
		second, f := kind.Type(c, xs, as, l, again[i])
		if typ != second || e != f {
			t.Fatalf("%d %d, not %d %d", second, f, typ, e)
		}
		if !reflect.DeepEqual(n, again[i]) {
			t.Fatal("the node was changed")
		}
	}
	kind.Check(c)
	if !reflect.DeepEqual(c, kept) || !reflect.DeepEqual([2][]int{xs, as}, types()) || !reflect.DeepEqual(l, types()) {
		t.Error("an argument was changed")
	}
}

// Elements beyond the length of a slice are neither read nor written (R4).
func TestR4ElementsBeyondTheLength(t *testing.T) {
	c := program(t, "done(1)")
	c.Funs = append(c.Funs, api.CoreFun{Name: "bad"})[:2]
	c.Decls = append(c.Decls, api.Decl{Name: "bad"})[:4]
	xs, l := append(numbers(), 1), append(numbers(), 99)
	if typ, e := kind.Type(c, xs[:5], nil, [2][]int{l[:5], nil}, x(1)); typ != list || e != api.OK {
		t.Errorf("read: %d %d", typ, e)
	}
	if e := kind.Check(c); e != api.OK {
		t.Errorf("read: %d", e)
	}
	if xs[5] != 1 || l[5] != 99 || c.Funs[:3][2].Name != "bad" || c.Decls[:5][4].Name != "bad" {
		t.Error("written")
	}
}

// No call may panic (P1), whatever the arguments are.
func TestP1NoPanic(t *testing.T) {
	var s sample.Numbers = 8
	odd := []int{-1 << 63, -1, 0, 1, 2, 3, 4, 5, api.MaxVar, api.MaxVar + 1, 1<<63 - 1}
	some := func() []int {
		var out []int
		for range s.Below(4) {
			out = append(out, sample.Pick(&s, odd))
		}
		return out
	}
	for _, n := range made(t, 9, 6, 5000) {
		c := program(t, "done(1)")
		sample.DisturbNode(&s, &n)
		kind.Type(c, some(), some(), [2][]int{some(), some()}, n)
		kind.Type(c, numbers(), numbers(), types(), n)
		*place(c) = n
		kind.Check(c)
		kind.Type(c, nil, nil, [2][]int{}, n)
	}
}
