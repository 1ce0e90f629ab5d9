package step_test

import (
	"math"
	"reflect"
	"testing"

	"chiasmus/api"
	"chiasmus/focus"
	"chiasmus/step"
)

// fails checks that all functions return the error, and nothing else. The fuel and the inputs are good ones, unless what is wrong comes before them.
func fails(t *testing.T, name string, c api.Core, inputs []int, k api.Node, want api.Errno) {
	t.Helper()
	if r, e := step.Run(c, 9, inputs); !reflect.DeepEqual(r, api.Run{}) || e != want {
		t.Errorf("%s: Run: %v %d, not %d", name, r, e, want)
	}
	if n, e := step.Start(c, inputs); !reflect.DeepEqual(n, api.Node{}) || e != want {
		t.Errorf("%s: Start: %v %d, not %d", name, n, e, want)
	}
	failsNext(t, name, c, k, want)
}

func failsNext(t *testing.T, name string, c api.Core, k api.Node, want api.Errno) {
	t.Helper()
	if n, r, over, e := step.Next(c, k); !reflect.DeepEqual(n, api.Node{}) || !reflect.DeepEqual(r, api.Run{}) || over || e != want {
		t.Errorf("%s: Next: %v %v %v %d, not %d", name, n, r, over, e, want)
	}
}

func TestP10Errors(t *testing.T) {
	const from = "fun main(x0 : int) = emit(x0, done(x0));\n"
	for name, c := range map[string]struct {
		s      string
		change func(c *api.Core)
		want   api.Errno
	}{
		"nothing":                     {from, func(c *api.Core) { *c = api.Core{} }, api.ErrCore},
		"declarations":                {from, func(c *api.Core) { c.Decls[1].Name = "list" }, api.ErrCore},
		"no function":                 {from, func(c *api.Core) { c.Funs = nil }, api.ErrCore},
		"a name":                      {from, func(c *api.Core) { c.Funs[0].Name = "emit" }, api.ErrCore},
		"an open body":                {from, func(c *api.Core) { c.Funs[0].Vars[0] = 5 }, api.ErrCore},
		"a wrong main":                {from, func(c *api.Core) { c.Funs[0].Params[0].Type = 1 }, api.ErrCore},
		"an operator":                 {from, func(c *api.Core) { c.Funs[0].Body.Op = -1 }, api.ErrCore},
		"a function that is not used": {from + "fun f(x0 : list) = done(x0);\n", func(c *api.Core) {}, api.ErrKind},
		"a type":                      {from, func(c *api.Core) { c.Funs[0].Body.Args[0] = api.Node{Op: api.PXtor, Type: 1} }, api.ErrKind},
		"a type, and an open function": {from + "fun f(x0 : list) = done(x0);\nfun g() = done(1);\n",
			func(c *api.Core) { c.Funs[2].Body = done(x(3)) }, api.ErrCore},
	} {
		c0 := parse(t, c.s)
		c.change(&c0)
		fails(t, name, c0, []int{1}, done(num(1)), c.want)
		fails(t, name+", and wrong inputs", c0, nil, x(9), c.want)
		if r, e := step.Run(c0, -1, nil); !reflect.DeepEqual(r, api.Run{}) || e != c.want {
			t.Errorf("%s, and wrong fuel: %v %d", name, r, e)
		}
	}
}

func TestR2FuelAndInputs(t *testing.T) {
	for s, count := range map[string]int{
		"fun main() = done(1);\n":          0,
		"fun main(x0 : int) = done(x0);\n": 1,
		"fun main(x0 : int, x1 : int, x2 : int, x3 : int, x4 : int, x5 : int) = done(x5);\n": 6,
	} {
		c := parse(t, s)
		for n := range 10 {
			inputs := make([]int, n)
			want := api.OK
			if n != count {
				want = api.ErrArg
			}
			if _, e := step.Run(c, 9, inputs); e != want {
				t.Errorf("%d inputs for %d: Run: %d", n, count, e)
			}
			if _, e := step.Start(c, inputs); e != want {
				t.Errorf("%d inputs for %d: Start: %d", n, count, e)
			}
			for _, fuel := range []int{-1, math.MinInt, api.MaxFuel + 1, math.MaxInt, 1 << 32} {
				if r, e := step.Run(c, fuel, inputs); !reflect.DeepEqual(r, api.Run{}) || e != api.ErrArg {
					t.Errorf("fuel %d: %v %d", fuel, r, e)
				}
			}
		}
	}
}

// tooLarge is a program that has no focused form.
func tooLarge() api.Core {
	k := steep(api.MaxCoreDepth - 4)
	for range 2 {
		k = emit(mu(0, done(num(1))), k)
	}
	return api.Core{Funs: []api.CoreFun{{Name: "main", Params: make([]api.Arg, 1), Vars: []int{0}, Body: k}}}
}

func TestP10ErrLargeOfFocus(t *testing.T) {
	c := tooLarge()
	if _, e := focus.Focus(c); e != api.ErrLarge {
		t.Fatal(e)
	}
	fails(t, "too large", c, []int{1}, done(num(1)), api.ErrLarge)
	// R1: what is wrong with fuel and inputs comes before it, what is wrong with a command after it.
	if _, e := step.Run(c, -1, []int{1}); e != api.ErrArg {
		t.Errorf("fuel: %d", e)
	}
	if _, e := step.Run(c, 9, nil); e != api.ErrArg {
		t.Errorf("inputs of Run: %d", e)
	}
	if _, e := step.Start(c, nil); e != api.ErrArg {
		t.Errorf("inputs of Start: %d", e)
	}
	failsNext(t, "a command", c, x(9), api.ErrLarge)
	c.Funs[0].Body = emit(api.Node{Op: api.PMatch}, c.Funs[0].Body)
	fails(t, "ErrCore comes first", c, []int{1}, done(num(1)), api.ErrCore)
	c = tooLarge()
	c.Funs = append(c.Funs, parse(t, "fun main() = done(1);\nfun f(a0 : int, x0 : int) = cut(int, x0, a0);\n").Funs[1])
	c.Funs[1].Params[0].Type, c.Decls = 1, parse(t, "fun main() = done(1);\n").Decls
	fails(t, "ErrKind comes first", c, []int{1}, done(num(1)), api.ErrKind)
}

// A command is good until it is changed.
func TestP10_2ErrArg(t *testing.T) {
	const good = "cut(list, Cons(1, Nil()), match list { Nil() => done(1), Cons(x0, x1) => emit(x0, call f(Tail(Head(comu(x2 : int, done(x0)))), x1, mu(a0 : stream, done(2)), comu(x3 : list, done(3)))) })"
	for name, change := range map[string]func(k *api.Node){
		"nothing":                    func(k *api.Node) { *k = api.Node{} },
		"a producer":                 func(k *api.Node) { *k = num(1) },
		"a producer of lists":        func(k *api.Node) { *k = k.Args[0] },
		"a consumer":                 func(k *api.Node) { *k = comu(0, done(x(0))) },
		"an operator":                func(k *api.Node) { k.Op = 99 },
		"an operator of a block":     func(k *api.Node) { k.Op = api.PObj },
		"a negative operator":        func(k *api.Node) { k.Op = -1 },
		"a number that is not used":  func(k *api.Node) { k.N = 1 },
		"a type":                     func(k *api.Node) { k.Type = 5 },
		"an xtor":                    func(k *api.Node) { k.Args[0].N = 2 },
		"a missing argument":         func(k *api.Node) { k.Args = k.Args[:1] },
		"a missing branch":           func(k *api.Node) { k.Args[1].Branches = k.Args[1].Branches[:1] },
		"a large number":             func(k *api.Node) { k.Args[1].Branches[1].Vars[1] = api.MaxVar + 1 },
		"two equal variables":        func(k *api.Node) { k.Args[1].Branches[1].Vars[1] = 0 },
		"a function":                 func(k *api.Node) { k.Args[1].Branches[1].Body.Args[1].N = 4 },
		"a free producer":            func(k *api.Node) { k.Args[0].Args[1] = x(0) },
		"a free integer":             func(k *api.Node) { k.Args[0].Args[0] = x(1) },
		"a free consumer":            func(k *api.Node) { k.Args[1] = api.Node{Op: api.CVar} },
		"free in a branch":           func(k *api.Node) { k.Args[1].Branches[0].Body = done(x(0)) },
		"not well-typed":             func(k *api.Node) { k.Args[0].Args[0] = api.Node{Op: api.PXtor, Type: 1} },
		"not well-typed in a branch": func(k *api.Node) { k.Args[1].Branches[1].Body.Args[0] = x(1) },
		"a cut of another type":      func(k *api.Node) { k.Type = 3 },
		"a serious argument":         func(k *api.Node) { k.Args[0].Args[1] = mu(1, done(num(1))) },
		"a serious argument in one": func(k *api.Node) {
			k.Args[0].Args[1] = api.Node{Op: api.PXtor, N: 1, Type: 1, Args: []api.Node{mu(0, done(num(1))), k.Args[0].Args[1]}}
		},
		"a serious argument in a branch": func(k *api.Node) { k.Args[1].Branches[1].Body.Args[0] = mu(0, done(num(1))) },
		"a serious consumer": func(k *api.Node) {
			k.Args[1].Branches[1].Body.Args[1].Args[0].Args[0] = comu(2, done(num(1)))
		},
		"what would have to be focused": func(k *api.Node) { *k = done(mu(0, done(num(1)))) },
	} {
		c, k := program(t, good)
		if _, _, _, e := step.Next(c, k); e != api.OK {
			t.Fatal(e)
		}
		change(&k)
		c, _ = program(t, good)
		failsNext(t, name, c, k, api.ErrArg)
	}
}
