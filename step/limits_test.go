package step_test

import (
	"reflect"
	"strings"
	"testing"

	"chiasmus/api"
	"chiasmus/core"
	"chiasmus/step"
)

// steep returns a command with the given depth, from 2 on.
func steep(depth int) api.Node {
	k := done(num(1))
	for range depth - 2 {
		k = emit(num(1), k)
	}
	return k
}

// sized returns a command with n nodes and no great depth. It may call function 1, which has no parameters.
func sized(n int) api.Node {
	switch {
	case n == 1:
		return call(1)
	case n == 2:
		return done(num(1))
	case n <= 4:
		return emit(num(1), sized(n-2))
	}
	half := (n - 2) / 2
	return ifz(num(1), sized(half), sized(n-2-half))
}

func nodes(n api.Node) int {
	out, _ := core.Size(n)
	return out
}

func depth(n api.Node) int {
	_, out := core.Size(n)
	return out
}

// growth is a command that is smaller than the next one. In both, done(7) stands for what is passed, and done(8) for what is not.
type growth struct{ name, command, next string }

const growthText = `data box { Box(stream) }
codata stream { Head(~int) }
codata use { Use(stream, ~int) }
fun main() = COMMAND;
fun h() = done(0);
fun f(x0 : stream, x1 : stream) = done(3);
fun g(x0 : stream) = emit(1, emit(2, ifz(1, call f(x0, x0), done(8))));
`

var growths = [...]growth{
	{"a consumer", "cut(int, mu(a0 : int, emit(1, emit(2, ifz(1, ifz(1, cut(int, 1, a0), cut(int, 2, a0)), done(8))))), comu(x0 : int, done(7)))",
		"emit(1, emit(2, ifz(1, ifz(1, cut(int, 1, comu(x0 : int, done(7))), cut(int, 2, comu(x0 : int, done(7)))), done(8))))"},
	{"a producer", "cut(stream, mu(a0 : stream, done(7)), comu(x0 : stream, emit(1, emit(2, ifz(1, call f(x0, x0), done(8))))))",
		"emit(1, emit(2, ifz(1, call f(mu(a0 : stream, done(7)), mu(a0 : stream, done(7))), done(8))))"},
	{"an argument of a constructor", "cut(box, Box(mu(a0 : stream, done(7))), match box { Box(x0) => emit(1, emit(2, ifz(1, call f(x0, x0), done(8)))) })",
		"emit(1, emit(2, ifz(1, call f(mu(a0 : stream, done(7)), mu(a0 : stream, done(7))), done(8))))"},
	{"an argument of a destructor", "cut(use, match use { Use(x0, a0) => emit(1, emit(2, ifz(1, call f(x0, x0), done(8)))) }, Use(mu(a0 : stream, done(7)), comu(x0 : int, done(0))))",
		"emit(1, emit(2, ifz(1, call f(mu(a0 : stream, done(7)), mu(a0 : stream, done(7))), done(8))))"},
	{"an argument of a call", "call g(mu(a0 : stream, done(7)))",
		"emit(1, emit(2, ifz(1, call f(mu(a0 : stream, done(7)), mu(a0 : stream, done(7))), done(8))))"},
}

// grown returns the program of which main has the command, and the next command.
func (g growth) grown(t *testing.T, passed, other api.Node) (api.Core, api.Node) {
	t.Helper()
	var out [2]api.Core
	for i, k := range []string{g.command, g.next} {
		c, e := core.Parse(strings.ReplaceAll(growthText, "COMMAND", k))
		if e != api.OK {
			t.Fatalf("%s: %d", g.name, e)
		}
		for f := range c.Funs {
			c.Funs[f].Body = filled(c.Funs[f].Body, passed, other)
		}
		out[i] = c
	}
	return out[0], out[1].Funs[0].Body
}

// filled returns n with what stands for done(7) and for done(8) in it.
func filled(n, seven, eight api.Node) api.Node {
	if reflect.DeepEqual(n, done(num(7))) {
		return seven
	}
	if reflect.DeepEqual(n, done(num(8))) {
		return eight
	}
	for i, a := range n.Args {
		n.Args[i] = filled(a, seven, eight)
	}
	for i, b := range n.Branches {
		n.Branches[i].Body = filled(b.Body, seven, eight)
	}
	return n
}

// becomes checks what comes after the body of main.
func becomes(t *testing.T, name string, c api.Core, next api.Node, want api.Errno) {
	t.Helper()
	if e := core.Check(c); e != api.OK {
		t.Fatalf("%s: %d", name, e)
	}
	got, r, over, e := step.Next(c, c.Funs[0].Body)
	if e != want || over || e == api.OK && (!core.Same(got, next) || r.Steps != 1) || e != api.OK && !reflect.DeepEqual(got, api.Node{}) {
		t.Errorf("%s: Next: %v %v %d, not %d", name, r, over, e, want)
	}
	// The command after the last step counts, too, and it counts even if the run would end.
	for fuel, want := range []api.Errno{api.OK, want} {
		r, e := step.Run(c, fuel, nil)
		if e != want || e == api.OK && !(r.End == api.Spent && r.Steps == fuel) || e != api.OK && !reflect.DeepEqual(r, api.Run{}) {
			t.Errorf("%s: Run with fuel %d: %v %d, not %d", name, fuel, r, e, want)
		}
	}
	if r, e := step.Run(c, api.MaxFuel, nil); e != want || e == api.OK && r.End != api.Done {
		t.Errorf("%s: Run: %v %d, not %d", name, r, e, want)
	}
}

func TestP10ErrLargeNodes(t *testing.T) {
	for _, g := range growths {
		_, next := g.grown(t, sized(12000), sized(2))
		rest := api.MaxCore - nodes(next) + 2
		c, next := g.grown(t, sized(12000), sized(rest))
		if nodes(next) != api.MaxCore || depth(next) > 100 {
			t.Fatalf("%s: %d %d", g.name, nodes(next), depth(next))
		}
		becomes(t, g.name, c, next, api.OK)
		c, next = g.grown(t, sized(12000), sized(rest+1))
		becomes(t, g.name, c, next, api.ErrLarge)
	}
}

func TestP10ErrLargeDepth(t *testing.T) {
	for _, g := range growths {
		_, next := g.grown(t, steep(1000), sized(2))
		passed := api.MaxCoreDepth - depth(next) + 1000
		c, next := g.grown(t, steep(passed), sized(2))
		if nodes(next) > 20000 || depth(next) != api.MaxCoreDepth {
			t.Fatalf("%s: %d %d", g.name, nodes(next), depth(next))
		}
		becomes(t, g.name, c, next, api.OK)
		c, next = g.grown(t, steep(passed+1), sized(2))
		becomes(t, g.name, c, next, api.ErrLarge)
	}
}

// Commands can double more often than numbers have digits, if nobody stops them.
func TestP10_1Doubling(t *testing.T) {
	c := parse(t, "fun main() = call f(mu(a0 : stream, done(1)));\nfun f(x0 : stream) = call f(mu(a0 : stream, cut(stream, x0, Tail(Tail(Head(comu(x1 : int, cut(stream, x0, a0))))))));\n")
	for fuel, want := range map[int]api.Errno{9: api.OK, 12: api.ErrLarge, 100: api.ErrLarge, api.MaxFuel: api.ErrLarge} {
		if r, e := step.Run(c, fuel, nil); e != want || e == api.OK && r.Steps != fuel {
			t.Errorf("%d: %v %d, not %d", fuel, r, e, want)
		}
	}
}

// Each call puts two more nodes between f and the end, and each sum takes them away. With n of them between, the deepest command is the ifz, 7 deep if there are none.
func TestP10_1Growing(t *testing.T) {
	c := parse(t, "fun main(x0 : int) = call f(x0, comu(x1 : int, done(x1)));\nfun f(x0 : int, a0 : int) = ifz(x0, cut(int, 0, a0), cut(int, mu(a1 : int, prim(-, x0, 1, comu(x1 : int, call f(x1, a1)))), comu(x2 : int, prim(+, x2, 1, a0))));\n")
	const most = (api.MaxCoreDepth - 7) / 2
	const steps = 5*(most+1) + 1 // until the ifz is too deep
	for _, a := range []struct {
		n, fuel int
		want    api.Run
		e       api.Errno
	}{
		{most, api.MaxFuel, api.Run{Val: most, Steps: 5*most + 3 + 2*most + 1}, api.OK},
		{most + 1, api.MaxFuel, api.Run{}, api.ErrLarge},
		{most + 1, steps, api.Run{}, api.ErrLarge},
		{most + 1, steps - 1, api.Run{End: api.Spent, Steps: steps - 1}, api.OK},
		{1 << 40, steps, api.Run{}, api.ErrLarge},
		{1 << 40, steps - 1, api.Run{End: api.Spent, Steps: steps - 1}, api.OK},
	} {
		if r, e := step.Run(c, a.fuel, []int{a.n}); !sameRun(r, a.want) || e != a.e {
			t.Errorf("%d with fuel %d: %v %d, not %v %d", a.n, a.fuel, r, e, a.want, a.e)
		}
	}
}

// A command that is as large as possible may be one of a run, also beside other functions.
func TestP10_2Limits(t *testing.T) {
	c := parse(t, "fun main(x0 : int, x1 : int) = done(1);\nfun f() = done(2);\nfun g() = done(3);\n")
	for name, k := range map[string][2]api.Node{
		"nodes": {sized(api.MaxCore), sized(api.MaxCore + 1)},
		"depth": {steep(api.MaxCoreDepth), steep(api.MaxCoreDepth + 1)},
	} {
		next, r, over, e := step.Next(c, k[0])
		if last := len(k[0].Args) - 1; !core.Same(next, k[0].Args[last]) || r.Steps != 1 || over || e != api.OK {
			t.Errorf("%s: %v %v %d", name, r, over, e)
		}
		failsNext(t, name, c, k[1], api.ErrArg)
	}
	failsNext(t, "very deep", c, steep(1<<15), api.ErrArg)
	wide := api.Node{Op: api.PXtor, Type: 1}
	for range 60 {
		wide = api.Node{Op: api.PXtor, N: 1, Type: 1, Args: []api.Node{wide, wide}}
	}
	failsNext(t, "huge", c, cut(1, wide, comu(1, done(num(1)))), api.ErrArg)
}
