package core_test

import (
	"fmt"
	"slices"
	"testing"

	"chiasmus/api"
	"chiasmus/core"
	"chiasmus/sample"
)

func TestP6_2FreeAndSize(t *testing.T) {
	for _, c := range []struct {
		name, free, size string
		n                api.Node
	}{
		{"a producer variable", "[3] []", "1 1", x(3)},
		{"a consumer variable", "[] [3]", "1 1", a(3)},
		{"an integer", "[] []", "1 1", num(3)},
		{"the first example", "[1] []", "4 3", mu(0, 0, cut(0, x(1), a(0)))},
		{"the test", "[3] [0]", "7 5", mu(1, 0, cut(0, mu(5, 0, cut(0, x(3), a(0))), a(1)))},
		{"each once, in order", "[-5 0 2 10 2000000] [1 9]", "10 2", node(api.KCall, x(10), x(2), a(9), x(2), x(2000000), x(-5), a(1), a(9), x(0))},
		{"mu binds no producer", "[0] []", "2 2", mu(0, 0, x(0))},
		{"comu binds no consumer", "[] [0]", "2 2", comu(0, 0, a(0))},
		{"bound, then free", "[0] []", "4 3", node(api.KCall, comu(0, 0, x(0)), x(0))},
		{"shadowed, then bound", "[] []", "5 4", comu(0, 0, node(api.KCall, comu(0, 0, x(0)), x(0)))},
		{"a branch binds in its body", "[0] [0 1]", "9 3", match(mixed, branch(node(api.KCall, x(1), a(0), x(0)), -2, 2, 3), branch(node(api.KCall, x(0), a(1), a(2)), -3))},
		{"the same number in both sorts", "[] [1]", "5 3", match(mixed, branch(node(api.KCall, x(0), a(0), a(1)), 1, -1))},
		{"a branch does not bind in others", "[0] []", "3 2", match(list, branch(x(0)), branch(x(0), 1))},
		{"nothing", "[0] []", "1 1", api.Node{}},
	} {
		if got := fmt.Sprint(core.Free(c.n)); got != c.free {
			t.Errorf("%s: free %s, not %s", c.name, got, c.free)
		}
		if got := fmt.Sprint(core.Size(c.n)); got != c.size {
			t.Errorf("%s: size %s, not %s", c.name, got, c.size)
		}
	}
}

// Free and Size accept nodes that are not valid.
func TestP6_2FreeAndSizeOfAnything(t *testing.T) {
	full := func(n api.Node) api.Node {
		n.Args, n.Branches = []api.Node{x(1), a(1)}, []api.Branch{branch(x(2)), {Body: a(2)}}
		return n
	}
	for _, c := range []struct {
		name, free, size string
		n                api.Node
	}{
		{"a variable with children", "[0] []", "1 1", full(x(0))},
		{"a consumer variable with children", "[] [0]", "1 1", full(a(0))},
		{"an integer with children", "[] []", "1 1", full(num(0))},
		{"an unknown operator", "[1 2] [1 2]", "5 2", full(node(99))},
		{"a negative operator", "[1 2] [1 2]", "5 2", full(node(-1))},
		{"a closure of a block", "[1 2] [1 2]", "5 2", full(typed(0, 1, node(api.PThunk)))},
		{"done with branches", "[1 2] [1 2]", "5 2", full(node(api.KDone))},
		{"a mu binds in all of its Args", "[1 2] [2]", "5 2", full(typed(0, 1, node(api.PMu)))},
		{"a comu binds in all of its Args", "[2] [1 2]", "5 2", full(typed(0, 1, node(api.CMu)))},
		{"a mu does not bind in its Branches", "[1 2] [1 2]", "5 2", full(typed(0, 2, node(api.PMu)))},
		{"a comu does not bind in its Branches", "[1 2] [1 2]", "5 2", full(typed(0, 2, node(api.CMu)))},
		{"a mu without a command", "[] []", "1 1", node(api.PMu)},
		{"other operators bind nothing by N", "[1] []", "2 2", typed(0, 1, node(api.KCut, x(1)))},
		{"a missing Co is a producer", "[] [5]", "4 3", with(node(99), api.Branch{Vars: []int{4, 5}, Co: []bool{true}, Body: node(99, x(5), a(5))})},
		{"no Co at all", "[] []", "2 2", with(node(api.KDone), api.Branch{Vars: []int{4}, Body: x(4)})},
		{"more Co than Vars", "[4] []", "2 2", with(node(99), api.Branch{Vars: []int{4}, Co: []bool{true, false, true}, Body: x(4)})},
		{"Vars are bound whatever the Op is", "[] []", "2 2", with(node(api.KEmit), branch(a(4), -5))},
		{"a doubled number", "[] []", "3 3", with(node(99), branch(node(99, x(4)), 5, 5))},
		{"negative numbers", "[-1] [-2]", "7 3", node(99, comu(-2, 0, x(-1)), mu(-1, 0, a(-2)), comu(-1, 0, x(-1)))},
	} {
		if got := fmt.Sprint(core.Free(c.n)); got != c.free {
			t.Errorf("%s: free %s, not %s", c.name, got, c.free)
		}
		if got := fmt.Sprint(core.Size(c.n)); got != c.size {
			t.Errorf("%s: size %s, not %s", c.name, got, c.size)
		}
	}
}

func TestP6_2AgainstTheReference(t *testing.T) {
	var s sample.Numbers = 1
	for range 20000 {
		n := wild(&s, 1+s.Below(6))
		xs, as := core.Free(n)
		ys, bs := listed(free(n))
		if !slices.Equal(xs, ys) || !slices.Equal(as, bs) {
			t.Fatalf("%v: %v %v, not %v %v", n, xs, as, ys, bs)
		}
		nodes, depth := core.Size(n)
		if m, d := measure(n); nodes != m || depth != d {
			t.Fatalf("%v: %d %d, not %d %d", n, nodes, depth, m, d)
		}
	}
}

// chain returns a node of the given depth that is a chain of nodes made by wrap around n.
func chain(depth int, n api.Node, wrap func(i int, n api.Node) api.Node) api.Node {
	for i := 1; i < depth; i++ {
		n = wrap(i, n)
	}
	return n
}

// deep returns nodes of 2^16 nodes, of several shapes, in which one variable is free.
func deep() map[string]api.Node {
	const depth = 1 << 16
	return map[string]api.Node{
		"mus":    chain(depth, x(0), func(i int, n api.Node) api.Node { return mu(i, 0, n) }),
		"comus":  chain(depth, x(0), func(i int, n api.Node) api.Node { return comu(i, 0, n) }),
		"equal":  chain(depth, x(0), func(i int, n api.Node) api.Node { return comu(1, 0, n) }),
		"match":  chain(depth, x(0), func(i int, n api.Node) api.Node { return match(0, branch(n, i+1, -i-1)) }),
		"others": chain(depth, x(0), func(i int, n api.Node) api.Node { return done(n) }),
	}
}

// Free and Size accept 2^16 nodes of any depth.
func TestP6_2Deep(t *testing.T) {
	for name, n := range deep() {
		if got := fmt.Sprint(core.Free(n)); got != "[0] []" {
			t.Errorf("%s: %s", name, got)
		}
		if nodes, depth := core.Size(n); nodes != 1<<16 || depth != 1<<16 {
			t.Errorf("%s: %d %d", name, nodes, depth)
		}
	}
}

func TestP6_2Wide(t *testing.T) {
	n := node(api.KCall)
	var want []int
	for i := range 1<<16 - 1 {
		n.Args = append(n.Args, a(-i))
		want = append(want, i-1<<16+2)
	}
	xs, as := core.Free(n)
	if len(xs) != 0 || !slices.Equal(as, want) {
		t.Errorf("%d %d", len(xs), len(as))
	}
	if nodes, depth := core.Size(n); nodes != 1<<16 || depth != 2 {
		t.Errorf("%d %d", nodes, depth)
	}
}
