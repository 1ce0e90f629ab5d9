package step_test

import (
	"reflect"
	"testing"

	"chiasmus/api"
	"chiasmus/core"
	"chiasmus/sample"
	"chiasmus/step"
)

// memory has the addresses of elements of slices: how often each was met.
type memory map[any]int

// meet goes through the memory of a slice, which is all that it has room for.
func meet[T any](m memory, l []T) {
	l = l[:cap(l)]
	for i := range l {
		m[&l[i]]++
	}
}

func (m memory) node(n api.Node) {
	meet(m, n.Args)
	for _, a := range n.Args {
		m.node(a)
	}
	meet(m, n.Branches)
	for _, b := range n.Branches {
		meet(m, b.Vars)
		meet(m, b.Co)
		m.node(b.Body)
	}
}

// apart reports whether no two slices in these nodes share memory.
func apart(l ...api.Node) bool {
	m := memory{}
	for _, n := range l {
		m.node(n)
	}
	for _, times := range m {
		if times > 1 {
			return false
		}
	}
	return true
}

// results are what the functions return for one program and one command.
type results struct {
	start, next api.Node
	step, run   api.Run
}

func calls(t *testing.T, c api.Core, k api.Node) (r results) {
	t.Helper()
	inputs := []int{3, -4, 55}[:2]
	var e api.Errno
	r.start = start(t, c, inputs)
	if r.next, r.step, _, e = step.Next(c, k); e != api.OK {
		t.Fatalf("%s: %d", shown(c, k), e)
	}
	if r.run, e = step.Run(c, 30, inputs); e != api.OK && e != api.ErrLarge {
		t.Fatalf("%s: %d", text(c), e)
	}
	if !reflect.DeepEqual(inputs[:3], []int{3, -4, 55}) {
		t.Errorf("the inputs are %v", inputs[:3])
	}
	return r
}

func TestR4Memory(t *testing.T) {
	for _, o := range all() {
		c, k := program(t, o.command)
		c0, k0 := program(t, o.command)
		once, twice := calls(t, c, k), calls(t, c, k)
		if !reflect.DeepEqual(c, c0) || !reflect.DeepEqual(k, k0) {
			t.Errorf("%s: an argument has changed", o.name)
		}
		// R7: the same call has the same result.
		if !reflect.DeepEqual(once, twice) {
			t.Errorf("%s: %v and %v", o.name, once, twice)
		}
		l := []api.Node{k, once.start, once.next, twice.start, twice.next}
		for i, f := range c.Funs {
			if i < len(c.Funs)-1 { // the last one has the body k
				l = append(l, f.Body)
			}
		}
		if !apart(l...) {
			t.Errorf("%s: shared memory", o.name)
		}
		for i := range once.step.Outs {
			once.step.Outs[i] = 77
		}
		if again := calls(t, c, k); !reflect.DeepEqual(again, twice) {
			t.Errorf("%s: %v after a change of what was emitted", o.name, again)
		}
	}
}

// A run and its commands are the same ones each time, and its program remains as it is.
func TestR7Determinism(t *testing.T) {
	again := made(t, 13, 6, 300)
	for i, c := range made(t, 13, 6, 300) {
		r, e := step.Run(c, 40, []int{1, 2})
		s, f := step.Run(c, 40, []int{1, 2})
		k, l := start(t, c, []int{1, 2}), start(t, c, []int{1, 2})
		if !reflect.DeepEqual(r, s) || e != f || !reflect.DeepEqual(k, l) || !reflect.DeepEqual(c, again[i]) {
			t.Fatalf("%v and %v: %s", r, s, text(again[i]))
		}
		if m, _, _, _ := step.Next(c, k); !apart(k, l, m, c.Funs[0].Body, c.Funs[1].Body, c.Funs[2].Body) {
			t.Fatalf("shared memory: %s", text(c))
		}
	}
}

// Elements beyond the length of a slice are neither read nor written.
func TestR4BeyondTheLength(t *testing.T) {
	const k = "call f(Tail(Head(comu(x9 : int, done(1)))), Cons(2, Nil()), match stream { Head(a0) => cut(int, 3, a0), Tail(a1) => done(4) }, comu(x0 : list, done(5)))"
	c, n := program(t, k)
	want := calls(t, c, n)
	c.Decls = append(c.Decls, api.Decl{Name: "rest"})[:len(c.Decls)]
	c.Funs = append(c.Funs, api.CoreFun{Name: "rest"})[:len(c.Funs)]
	for i := range c.Funs {
		f := &c.Funs[i]
		f.Params, f.Vars = append(f.Params, api.Arg{Type: 99})[:len(f.Params)], append(f.Vars, 99)[:len(f.Vars)]
		extend(&f.Body)
	}
	n = c.Funs[len(c.Funs)-1].Body
	got := calls(t, c, n)
	if !core.Same(got.start, want.start) || !core.Same(got.next, want.next) || !sameRun(got.step, want.step) || !sameRun(got.run, want.run) {
		t.Errorf("%v, not %v", got, want)
	}
	for _, f := range c.Funs {
		if f.Params[:len(f.Params)+1][len(f.Params)].Type != 99 || f.Vars[:len(f.Vars)+1][len(f.Vars)] != 99 || !isExtended(f.Body) {
			t.Errorf("more was written than the slices of %s hold", f.Name)
		}
	}
}

// extend puts more beyond the Args, the Branches and the variables of each node.
func extend(n *api.Node) {
	for i := range n.Args {
		extend(&n.Args[i])
	}
	for i := range n.Branches {
		b := &n.Branches[i]
		extend(&b.Body)
		b.Vars, b.Co = append(b.Vars, 99)[:len(b.Vars)], append(b.Co, true)[:len(b.Co)]
	}
	n.Args = append(n.Args, x(99))[:len(n.Args)]
	n.Branches = append(n.Branches, api.Branch{Body: x(99)})[:len(n.Branches)]
}

func isExtended(n api.Node) bool {
	for _, a := range n.Args {
		if !isExtended(a) {
			return false
		}
	}
	for _, b := range n.Branches {
		if !isExtended(b.Body) || b.Vars[:len(b.Vars)+1][len(b.Vars)] != 99 || !b.Co[:len(b.Co)+1][len(b.Co)] {
			return false
		}
	}
	return n.Args[:len(n.Args)+1][len(n.Args)].N == 99 && n.Branches[:len(n.Branches)+1][len(n.Branches)].Body.N == 99
}

// No call may panic (P1), whatever the fields of a program and of a command are.
func TestP1NoPanic(t *testing.T) {
	var s sample.Numbers = 14
	ends, nexts := map[api.Errno]int{}, map[api.Errno]int{}
	whole := parse(t, funText)
	for _, c := range made(t, 15, 5, 5000) {
		sample.DisturbNode(&s, &c.Funs[0].Body)
		r, e := step.Run(c, 50, []int{1, 2})
		n, f := step.Start(c, []int{1, 2})
		if e != f && e != api.ErrLarge || e != api.OK && !reflect.DeepEqual(r, api.Run{}) || f != api.OK && !reflect.DeepEqual(n, api.Node{}) {
			t.Fatalf("%v %d, %v %d", r, e, n, f)
		}
		ends[e]++
		k, _, _, e := step.Next(c, n)
		_, _, _, g := step.Next(whole, c.Funs[0].Body)
		if e != f && f != api.OK || e != api.OK && !reflect.DeepEqual(k, api.Node{}) {
			t.Fatalf("%v %d, after %d", k, e, f)
		}
		nexts[g]++
	}
	if len(ends) > 4 || ends[api.OK] < 200 || ends[api.ErrCore] < 200 || ends[api.ErrKind] < 50 {
		t.Error(ends)
	}
	if len(nexts) > 3 || nexts[api.OK] < 200 || nexts[api.ErrArg] < 1000 {
		t.Error(nexts)
	}
}
