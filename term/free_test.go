package term

import (
	"fmt"
	"maps"
	"slices"
	"strconv"
	"testing"

	"chiasmus/api"
)

func TestP2_3Free(t *testing.T) {
	x, y, one := v("x"), v("y"), num(1)
	for _, c := range []struct {
		name, want string
		x          api.Term
	}{
		{"a variable", "[x] []", x},
		{"an integer", "[] []", one},
		{"each once", "[x] []", prim(api.Add, x, x)},
		{"byte order", "[ X a10 a9 aa é] []", ifz(v("aa"), emit(v("é"), v("a9")), emit(v("X"), emit(v(""), v("a10"))))},
		{"labels in byte order", "[] [a b c]", jump("b", 0, emit(jump("c", 0, one), emit(jump("a", 0, one), jump("b", 0, one))))},
		{"the argument of a goto", "[x] [k]", jump("k", 0, x)},
		{"let binds in its body", "[y] []", let("x", 0, y, x)},
		{"let does not bind in its term", "[x] []", let("x", 0, x, x)},
		{"let binds no label", "[] [x]", let("x", 0, one, jump("x", 0, one))},
		{"label binds", "[y] []", label("k", 0, jump("k", 0, y))},
		{"label binds no variable", "[x] []", label("x", 0, x)},
		{"bound, then free", "[x] [k]", emit(let("x", 0, one, label("k", 0, jump("k", 0, x))), jump("k", 0, x))},
		{"shadowed, then bound", "[] []", let("x", 0, one, emit(let("x", 0, one, x), x))},
		{"the second example", "[l x] [k]", match(list, v("l"), clause(x), clause(jump("k", 0, x), "x", "r"))},
		{"a clause binds in its body", "[a] []", match(list, v("a"), clause(one), clause(emit(v("a"), v("b")), "a", "b"))},
		{"a clause does not bind in others", "[a] []", object(stream, clause(v("a"), "b"), clause(v("b"), "a", "b"))},
		{"a clause binds no label", "[] [a]", object(fn, clause(jump("a", 0, one), "a", "b"))},
		{"a doubled name in a clause", "[a] []", emit(object(fn, clause(v("a"), "a", "a")), v("a"))},
		{"destructor", "[x y] []", dtor(fn, 0, x, y, x)},
		{"a call", "[x y] []", call(1, y, x)},
	} {
		vars, labels := Free(c.x)
		if got := fmt.Sprint(vars, labels); got != c.want {
			t.Errorf("%s: %s, not %s", c.name, got, c.want)
		}
	}
}

// Free accepts terms that are not valid: what an operator does not have counts, too.
func TestP2_3FreeOfAnything(t *testing.T) {
	x, y, one := v("x"), v("y"), num(1)
	for _, c := range []struct {
		name, want string
		x          api.Term
	}{
		{"an unknown operator", "[x y] []", api.Term{Op: 99, Name: "z", Args: []api.Term{x}, Clauses: []api.Clause{clause(y, "x")}}},
		{"a negative operator", "[x] []", api.Term{Op: -1, Name: "x", Args: []api.Term{x}}},
		{"a variable with parts", "[x y] []", api.Term{Op: api.TVar, Name: "x", Args: []api.Term{y}, Clauses: []api.Clause{clause(x, "x")}}},
		{"a variable without a name", "[] [] 1", api.Term{Op: api.TVar}},
		{"an integer with a name and parts", "[x y] []", api.Term{Op: api.TInt, Name: "z", Args: []api.Term{x}, Clauses: []api.Clause{clause(y)}}},
		{"a goto with clauses", "[x y] [k]", api.Term{Op: api.TGoto, Name: "k", Args: []api.Term{x, y}, Clauses: []api.Clause{clause(v("z"), "z")}}},
		{"a goto without parts", "[] [k]", api.Term{Op: api.TGoto, Name: "k"}},
		{"a let with one part", "[x] []", api.Term{Op: api.TLet, Name: "x", Args: []api.Term{x}}},
		{"a let binds in its second part only", "[x] []", api.Term{Op: api.TLet, Name: "x", Args: []api.Term{one, x, x}}},
		{"a let with clauses", "[x] []", api.Term{Op: api.TLet, Name: "x", Args: []api.Term{one, x}, Clauses: []api.Clause{clause(x)}}},
		{"a label binds in its first part only", "[] [k]", api.Term{Op: api.TLabel, Name: "k", Args: []api.Term{jump("k", 0, one), jump("k", 0, one)}}},
		{"a label with clauses", "[] [k]", api.Term{Op: api.TLabel, Name: "k", Clauses: []api.Clause{clause(jump("k", 0, one))}}},
		{"clauses of a let", "[] []", api.Term{Op: api.TLet, Name: "y", Clauses: []api.Clause{clause(x, "x")}}},
		{"other operators bind nothing", "[x] []", api.Term{Op: api.TEmit, Name: "x", Args: []api.Term{x, x}}},
		{"a let without a name", "[] []", let("", 0, one, v(""))},
		{"an empty name in a clause", "[] []", object(0, clause(v(""), ""))},
		{"nothing", "[] [] 1", api.Term{}},
	} {
		vars, labels := Free(c.x)
		got := fmt.Sprint(vars, labels)
		if len(vars) == 1 && vars[0] == "" {
			got += " 1"
		}
		if got != c.want {
			t.Errorf("%s: %s, not %s", c.name, got, c.want)
		}
	}
}

// free computes what Free promises in another way: from below, as sets from which the bound names are taken away.
func free(t api.Term) (vars, labels map[string]bool) {
	vars, labels = map[string]bool{}, map[string]bool{}
	add := func(x api.Term, names []string, label string) {
		a, b := free(x)
		for _, s := range names {
			delete(a, s)
		}
		delete(b, label)
		maps.Copy(vars, a)
		maps.Copy(labels, b)
	}
	for i, x := range t.Args {
		switch {
		case t.Op == api.TLet && i == 1:
			add(x, []string{t.Name}, "-")
		case t.Op == api.TLabel && i == 0:
			add(x, nil, t.Name)
		default:
			add(x, nil, "-")
		}
	}
	for _, c := range t.Clauses {
		add(c.Body, c.Names, "-")
	}
	switch t.Op {
	case api.TVar:
		vars[t.Name] = true
	case api.TGoto:
		labels[t.Name] = true
	}
	return vars, labels
}

func TestP2_3FreeOfMixed(t *testing.T) {
	s := numbers(5)
	for i := range 20000 {
		x := s.wild(1 + s.below(5))
		if i%2 == 0 {
			x = s.fitting(1 + s.below(6))
		}
		vars, labels := Free(x)
		a, b := free(x)
		if !slices.Equal(vars, slices.Sorted(maps.Keys(a))) || !slices.Equal(labels, slices.Sorted(maps.Keys(b))) {
			t.Fatalf("%v: %v %v, not %v %v", x, vars, labels, a, b)
		}
	}
}

// Free accepts 2^16 nodes, in any shape: each of these binds as many names as it can.
func TestP2_3FreeOfDeep(t *testing.T) {
	const depth = 1<<16 - 1
	labels, clauses, lets, left := jump("k", 0, v("x")), v("x"), v("x"), v("x")
	for i := range depth - 1 {
		name := "n" + strconv.Itoa(i)
		labels = label(name, 0, labels)
		clauses = object(0, clause(clauses, name))
		if i%2 == 0 {
			lets = let(name, 0, v("y"), lets)
			left = let(name, 0, left, v(name))
		}
	}
	for _, c := range []struct {
		name, want string
		x          api.Term
	}{
		{"labels", "[x] [k]", labels},
		{"clauses", "[x] []", clauses},
		{"lets", "[x y] []", lets},
		{"lets in lets", "[x] []", left},
	} {
		vars, labels := Free(c.x)
		if got := fmt.Sprint(vars, labels); got != c.want {
			t.Errorf("%s: %s, not %s", c.name, got, c.want)
		}
	}
}

func TestP2_3FreeOfWide(t *testing.T) {
	wide := api.Term{Op: api.TCall}
	var want []string
	for i := range 1<<16 - 1 {
		name := strconv.Itoa(100000 + i)
		wide.Args = append(wide.Args, v(name))
		want = append(want, name)
	}
	slices.Reverse(wide.Args)
	if vars, labels := Free(wide); !slices.Equal(vars, want) || len(labels) != 0 {
		t.Errorf("%d variables, %d labels", len(vars), len(labels))
	}
}

// A range over subterms that is left early calls nothing more, at whatever subterm it is left.
func TestNodesStops(t *testing.T) {
	x := match(list, emit(v("a"), v("b")), clause(let("c", 0, num(1), v("c"))), clause(v("d"), "d", "e"))
	all := 0
	for range nodes(x) {
		all++
	}
	if all != 8 {
		t.Fatalf("%d nodes", all)
	}
	for stop := 1; stop <= all; stop++ {
		seen := 0
		for range nodes(x) {
			seen++
			if seen == stop {
				break
			}
		}
		if seen != stop {
			t.Errorf("%d nodes, not %d", seen, stop)
		}
	}
}
