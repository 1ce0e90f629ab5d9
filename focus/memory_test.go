package focus_test

import (
	"reflect"
	"testing"

	"chiasmus/api"
	"chiasmus/focus"
	"chiasmus/sample"
)

// memory has the addresses of elements of slices: how often each was met.
type memory map[any]int

// meet goes through the memory of a slice, which is all that it has room for.
func meet[T any](m memory, l []T) {
	l = l[:cap(l)]
	for i := range l {
		m[&l[i]]++
	}
}

func (m memory) core(c api.Core) {
	meet(m, c.Decls)
	for _, d := range c.Decls {
		meet(m, d.Xtors)
		for _, x := range d.Xtors {
			meet(m, x.Args)
		}
	}
	meet(m, c.Funs)
	for _, f := range c.Funs {
		meet(m, f.Params)
		meet(m, f.Vars)
		m.node(f.Body)
	}
}

func (m memory) node(n api.Node) {
	meet(m, n.Args)
	for _, a := range n.Args {
		m.node(a)
	}
	meet(m, n.Branches)
	for _, b := range n.Branches {
		meet(m, b.Vars)
		meet(m, b.Co)
		m.node(b.Body)
	}
}

// apart reports whether no two slices share memory, neither in one of the programs nor in two of them.
func apart(l ...api.Core) bool {
	m := memory{}
	for _, c := range l {
		m.core(c)
	}
	for _, times := range m {
		if times > 1 {
			return false
		}
	}
	return true
}

func TestR4Memory(t *testing.T) {
	again := made(t, 4, 6, 300)
	for i, c := range made(t, 4, 6, 300) {
		// The programs that are made share their declarations.
		c.Decls = parse(t, headText).Decls
		once, twice := focused(t, c), focused(t, c)
		isFocused(t, c)
		if !reflect.DeepEqual(c, again[i]) {
			t.Fatalf("%s has changed", text(again[i]))
		}
		// R7: the same program becomes the same one.
		if !reflect.DeepEqual(once, twice) {
			t.Fatalf("%s and\n%s", text(once), text(twice))
		}
		if !apart(focused(t, once), once, twice) || !apart(c, once) {
			t.Fatalf("%s shares memory", text(c))
		}
	}
	for _, c := range all() {
		if k := program(t, c.command); !apart(k, focused(t, k)) {
			t.Errorf("%s: shared memory", c.name)
		}
	}
}

// Elements beyond the length of a slice are neither read nor written.
func TestR4BeyondTheLength(t *testing.T) {
	c := program(t, "call f(Tail(comu(x9 : stream, done(1))), Cons(mu(a9 : int, done(2)), Nil()))")
	want := focused(t, c)
	c.Decls = append(c.Decls, api.Decl{Name: "rest"})[:len(c.Decls)]
	c.Funs = append(c.Funs, api.CoreFun{Name: "rest"})[:len(c.Funs)]
	for i := range c.Funs {
		f := &c.Funs[i]
		f.Params, f.Vars = append(f.Params, api.Arg{Type: 99})[:len(f.Params)], append(f.Vars, 99)[:len(f.Vars)]
		extend(&f.Body)
	}
	if got := focused(t, c); !same(t, got, want) || isFocused(t, c) {
		t.Errorf("%s", text(got))
	}
	for _, f := range c.Funs {
		if f.Params[:len(f.Params)+1][len(f.Params)].Type != 99 || f.Vars[:len(f.Vars)+1][len(f.Vars)] != 99 || !isExtended(f.Body) {
			t.Errorf("more was written than the slices of %s hold", f.Name)
		}
	}
}

// extend puts a producer that would have to be named beyond the Args of each node.
func extend(n *api.Node) {
	for i := range n.Args {
		extend(&n.Args[i])
	}
	n.Args = append(n.Args, mu(0, done(num(1))))[:len(n.Args)]
}

func isExtended(n api.Node) bool {
	for _, a := range n.Args {
		if !isExtended(a) {
			return false
		}
	}
	return reflect.DeepEqual(n.Args[:len(n.Args)+1][len(n.Args)], mu(0, done(num(1))))
}

// No call may panic (P1), whatever the fields of a program are.
func TestP1NoPanic(t *testing.T) {
	var s sample.Numbers = 5
	ends := map[api.Errno]int{}
	for _, c := range made(t, 6, 5, 6000) {
		sample.DisturbNode(&s, &c.Funs[s.Below(len(c.Funs))].Body)
		is, e := focus.Focused(c)
		_, f := focus.Focus(c)
		if e != f || e != api.OK && is {
			t.Fatalf("%v %d, and %d", is, e, f)
		}
		ends[e]++
	}
	if ends[api.OK] < 200 || ends[api.ErrCore] < 200 || ends[api.ErrKind] < 50 {
		t.Error(ends)
	}
}
