package sample_test

import (
	"reflect"
	"strconv"
	"testing"

	"chiasmus/api"
	"chiasmus/check"
	"chiasmus/core"
	"chiasmus/sample"
	"chiasmus/term"
	"chiasmus/text"
)

// heads has types whose smallest terms are an object, a constructor of a later type, and a call.
const heads = `codata fn { Ap(list, int, ~list) }
data knot { Tie(knot), Cut(list, fn) }
data list { Nil(), Cons(int, list) }
codata stream { Head(~int), Tail(~stream) }
fun main(x : int) : int = x;
fun from(x : list, l : int) : stream = from(x, l);
`

func parse(t *testing.T) api.Prog {
	t.Helper()
	p, e := text.Parse(heads)
	if e != api.OK {
		t.Fatal(e)
	}
	return p
}

func TestNumbers(t *testing.T) {
	a, b := sample.Numbers(1), sample.Numbers(1)
	seen := map[int]bool{}
	for range 1000 {
		n := a.Below(10)
		if n < 0 || n >= 10 || n != b.Below(10) {
			t.Fatal(n)
		}
		seen[n] = true
	}
	if len(seen) != 10 {
		t.Errorf("only %v", seen)
	}
}

// operators counts the operators of a term.
func operators(t api.Term, count map[int]int) {
	count[t.Op]++
	for _, x := range t.Args {
		operators(x, count)
	}
	for _, c := range t.Clauses {
		operators(c.Body, count)
	}
}

func TestMakerWithoutOddity(t *testing.T) {
	s := sample.Numbers(2)
	m := sample.NewMaker(parse(t), &s, 0)
	count, large := map[int]int{}, 0
	for range 1000 {
		p := m.Prog(4)
		switch check.Check(p) {
		case api.ErrType:
			t.Fatal(text.String(p))
		case api.ErrProg:
			large++
		}
		for _, f := range p.Funs {
			operators(f.Body, count)
		}
	}
	if len(count) != api.TGoto+1 || large > 500 {
		t.Errorf("%d too large, operators %v", large, count)
	}
}

func TestMakerWithOddity(t *testing.T) {
	s := sample.Numbers(3)
	m := sample.NewMaker(parse(t), &s, 20)
	ends := map[api.Errno]int{}
	for range 1000 {
		ends[check.Check(m.Prog(3))]++
	}
	if ends[api.OK] < 100 || ends[api.ErrType] < 100 {
		t.Errorf("%v", ends)
	}
}

// The same numbers make the same terms, which share no memory.
func TestMakerAgain(t *testing.T) {
	p := parse(t)
	a, b := sample.Numbers(4), sample.Numbers(4)
	m, n := sample.NewMaker(p, &a, 9), sample.NewMaker(p, &b, 9)
	for range 300 {
		x, y := m.Prog(4), n.Prog(4)
		if !reflect.DeepEqual(x, y) {
			t.Fatal("the same numbers make other terms")
		}
		for i := range y.Funs {
			sample.Disturb(&b, &y.Funs[i].Body)
		}
		b = a
	}
}

func TestDisturb(t *testing.T) {
	s := sample.Numbers(5)
	m := sample.NewMaker(parse(t), &s, 0)
	ends := map[api.Errno]int{}
	for range 1000 {
		p := m.Prog(3)
		sample.Disturb(&s, &p.Funs[0].Body)
		ends[term.Check(p)]++
	}
	if ends[api.OK] < 100 || ends[api.ErrProg] < 100 {
		t.Errorf("%v", ends)
	}
}

const coreHeads = `data knot { Tie(knot, ~list), Cut(~list, fn) }
codata fn { Ap(list, int, ~list), No(int) }
data list { Nil(), Cons(int, list) }
fun main(x0 : int, x1 : int) = done(x0);
fun to(x0 : list, a0 : fn, x1 : fn, a1 : int) = done(0);
`

func parseCore(t *testing.T) api.Core {
	t.Helper()
	c, e := core.Parse(coreHeads)
	if e != api.OK {
		t.Fatal(e)
	}
	return c
}

// nodeOperators counts the operators of a node.
func nodeOperators(n api.Node, count map[int]int) {
	count[n.Op]++
	for _, x := range n.Args {
		nodeOperators(x, count)
	}
	for _, b := range n.Branches {
		nodeOperators(b.Body, count)
	}
}

func TestCoreMaker(t *testing.T) {
	s := sample.Numbers(6)
	m := sample.NewCoreMaker(parseCore(t), &s, 0)
	count, large := map[int]int{}, 0
	for range 1000 {
		c := m.Core(6)
		for _, f := range c.Funs {
			nodeOperators(f.Body, count)
		}
		if core.Check(c) != api.OK {
			large++
		}
	}
	if len(count) != api.KDone+1 || large > 10 {
		t.Errorf("%d too large, operators %v", large, count)
	}
}

// Parts of a program are valid where the variables of their scope are.
func TestCoreMakerParts(t *testing.T) {
	s := sample.Numbers(7)
	m := sample.NewCoreMaker(parseCore(t), &s, 9)
	l := []sample.Variable{{N: 0}, {N: 0, Arg: api.Arg{Type: 1, Co: true}}, {N: 5, Arg: api.Arg{Type: 2}}, {N: 9, Arg: api.Arg{Co: true}}}
	used := map[string]int{}
	for range 1000 {
		for typ := range 4 {
			p, c, k := m.Producer(3, typ, l), m.Consumer(3, typ, l), m.Command(3, l)
			if p.Op > api.PMatch || c.Op < api.CVar || c.Op > api.CMatch || k.Op < api.KCut || k.Op > api.KDone {
				t.Fatal(p.Op, c.Op, k.Op)
			}
			xs, as := core.Free(api.Node{Op: api.KCut, Args: []api.Node{p, c, k}})
			for _, n := range xs {
				used["x"+strconv.Itoa(n)]++
			}
			for _, n := range as {
				used["a"+strconv.Itoa(n)]++
			}
		}
	}
	if len(used) != 4 || used["x0"] == 0 || used["x5"] == 0 || used["a0"] == 0 || used["a9"] == 0 {
		t.Errorf("%v", used)
	}
}

func TestDisturbNode(t *testing.T) {
	s := sample.Numbers(8)
	m := sample.NewCoreMaker(parseCore(t), &s, 9)
	ends := map[api.Errno]int{}
	for range 2000 {
		c := m.Core(4)
		sample.DisturbNode(&s, &c.Funs[0].Body)
		ends[core.Check(c)]++
	}
	if ends[api.OK] < 100 || ends[api.ErrCore] < 100 {
		t.Errorf("%v", ends)
	}
}
