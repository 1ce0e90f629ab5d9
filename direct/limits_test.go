package direct_test

import (
	"math"
	"reflect"
	"slices"
	"testing"

	"chiasmus/api"
	"chiasmus/direct"
)

// fails checks that both functions return the error, and nothing else.
func fails(t *testing.T, name string, p api.Prog, fuel int, inputs []int, want api.Errno) {
	t.Helper()
	if r, e := direct.Run(p, fuel, inputs); !reflect.DeepEqual(r, api.Run{}) || e != want {
		t.Errorf("%s: Run: %v %d, not %d", name, r, e, want)
	}
	if s, e := direct.Value(p, fuel, inputs); s != "" || e != want {
		t.Errorf("%s: Value: %q %d, not %d", name, s, e, want)
	}
}

func TestR2Fuel(t *testing.T) {
	p := parse(t, "fun main(n : int) : int = emit(n, main((n + 1)));")
	for _, fuel := range []int{-1, math.MinInt, api.MaxFuel + 1, math.MaxInt, 1 << 32} {
		fails(t, "fuel", p, fuel, []int{1}, api.ErrArg)
		fails(t, "fuel and inputs", p, fuel, nil, api.ErrArg)
	}
	for _, fuel := range []int{0, 1, 2, 3, api.MaxFuel - 1, api.MaxFuel} {
		r, e := direct.Run(p, fuel, []int{1})
		if r.End != api.Spent || r.Val != 0 || r.Steps != fuel || len(r.Outs) != (fuel+4)/6 || e != api.OK {
			t.Errorf("fuel %d: %d steps, %d emitted, %d", fuel, r.Steps, len(r.Outs), e)
		}
	}
}

func TestR2Inputs(t *testing.T) {
	for funs, count := range map[string]int{
		"fun main() : int = 1;":        0,
		"fun main(a : int) : int = a;": 1,
		"fun main(a : int, b : int, c : int, d : int, e : int, f : int) : int = (a + f);": 6,
	} {
		p := parse(t, funs)
		for n := range 10 {
			inputs := make([]int, n)
			if n != count {
				fails(t, funs, p, 9, inputs, api.ErrArg)
			} else if _, e := direct.Run(p, 9, inputs); e != api.OK {
				t.Errorf("%s: %d", funs, e)
			}
		}
	}
	p := parse(t, "fun main() : int = 1;")
	if s, e := direct.Value(p, 9, []int{}); s != "done 1" || e != api.OK {
		t.Errorf("no inputs: %q %d", s, e)
	}
}

func TestR2Programs(t *testing.T) {
	one := api.Term{Op: api.TInt, N: 1}
	good := func() api.Prog { return parse(t, "fun main(n : int) : int = (n + 1);") }
	for name, change := range map[string]func(p *api.Prog){
		"empty":               func(p *api.Prog) { *p = api.Prog{} },
		"no functions":        func(p *api.Prog) { p.Funs = nil },
		"declarations":        func(p *api.Prog) { p.Decls[0].Name = "int" },
		"not of the source":   func(p *api.Prog) { p.Decls[0].Xtors[1].Args[0].Co = true },
		"a variable":          func(p *api.Prog) { p.Funs[0].Body.Args[0].Name = "m" },
		"an operator":         func(p *api.Prog) { p.Funs[0].Body.Op = 99 },
		"a negative operator": func(p *api.Prog) { p.Funs[0].Body.Op = -1 },
		"an operation":        func(p *api.Prog) { p.Funs[0].Body.N = 7 },
		"a missing argument":  func(p *api.Prog) { p.Funs[0].Body.Args = p.Funs[0].Body.Args[:1] },
		"a parameter of main": func(p *api.Prog) { p.Funs[0].Params[0].Type = 1 },
		"the result of main":  func(p *api.Prog) { p.Funs[0].Result = 1 },
		"a label":             func(p *api.Prog) { p.Funs[0].Body = api.Term{Op: api.TGoto, Name: "k", Args: []api.Term{one}} },
		"a function":          func(p *api.Prog) { p.Funs[0].Body = api.Term{Op: api.TCall, N: 3} },
		"a later function":    func(p *api.Prog) { p.Funs[2].Body = api.Term{Op: api.TVar, Name: "q"} },
	} {
		p := good()
		change(&p)
		fails(t, name, p, 9, []int{1}, api.ErrProg)
		fails(t, name+", and fuel", p, -1, []int{1}, api.ErrProg)
		fails(t, name+", and inputs", p, 9, nil, api.ErrProg)
	}
	runs(t, "unchanged", good(), []int{4}, "done 5", 3)
}

// A run may nest more deeply than its terms.
func TestP5_1Deep(t *testing.T) {
	const count = "fun main(n : int) : int = f(n); fun f(n : int) : int = ifz(n, 0, (1 + f((n - 1))));"
	const last = "fun main(n : int) : int = f(n, 0); fun f(n : int, a : int) : int = ifz(n, a, f((n - 1), (a + 1)));"
	const lists = "fun main(n : int) : int = sum(f(n)); fun f(n : int) : list = ifz(n, Nil(), Cons(1, f((n - 1))));"
	const objects = "fun main(n : int) : int = f(n, from(0)).Head(); fun f(n : int, s : stream) : stream = ifz(n, s, f((n - 1), s.Tail()));"
	for _, c := range []struct {
		name, funs string
		n          int
		value      string
		steps      int
	}{
		{"sums", count, 2499, "done 2499", 19997},
		{"too many sums", count, 2500, "spent", 20000},
		{"calls", last, 2221, "done 2221", 19995},
		{"too many calls", last, 2222, "spent", 20000},
		{"lists", lists, 1427, "done 1427", 19987},
		{"objects", objects, 1537, "done 1537", 19991},
	} {
		r, e := direct.Run(parse(t, c.funs), api.MaxFuel, []int{c.n})
		if says(r) != c.value || r.Steps != c.steps || e != api.OK {
			t.Errorf("%s: %s, %d steps, %d; not %s, %d steps", c.name, says(r), r.Steps, e, c.value, c.steps)
		}
	}
}

func TestR4ArgumentsAreNotModified(t *testing.T) {
	const funs = "fun main(a : int, b : int) : int = emit(a, (sum(Cons(b, Cons(a, Nil()))) + let(s : stream = from(b), s.Tail().Head())));"
	p, kept := parse(t, funs), parse(t, funs)
	inputs := []int{1, 2, 3}[:2]
	direct.Run(p, 99, inputs)
	direct.Value(p, 99, inputs)
	if !reflect.DeepEqual(p, kept) || !slices.Equal(inputs[:3], []int{1, 2, 3}) {
		t.Error("modified")
	}
}

// Elements beyond the length of a slice are neither read nor written.
func TestR4ElementsBeyondTheLength(t *testing.T) {
	p, kept := program(t, "emit(1, sum(Cons(2, Nil())))"), program(t, "emit(1, sum(Cons(2, Nil())))")
	p.Funs = append(p.Funs, api.Fun{Name: "bad"})[:3]
	p.Decls = append(p.Decls, api.Decl{Name: "bad"})[:8]
	bad := api.Term{Op: 99}
	p.Funs[0].Body.Args = append(p.Funs[0].Body.Args, bad)[:2]
	runs(t, "beyond", p, nil, "emit 1, done 2", 15)
	if !reflect.DeepEqual(p, kept) || p.Funs[:4][3].Name != "bad" || p.Decls[:9][8].Name != "bad" || p.Funs[0].Body.Args[:3][2].Op != 99 {
		t.Error("written")
	}
}

// Results are new memory, and no call changes what another one returned or will return.
func TestR4Results(t *testing.T) {
	p := parse(t, "fun main(n : int) : int = emit(n, emit((n + 1), 7));")
	first, _ := direct.Run(p, 99, []int{1})
	second, _ := direct.Run(p, 99, []int{1})
	third, _ := direct.Run(p, 99, []int{5})
	second.Outs[0] = 99
	_ = append(third.Outs[:1], 99)
	if says(first) != "emit 1, emit 2, done 7" {
		t.Errorf("changed: %s", says(first))
	}
	runs(t, "again", p, []int{1}, "emit 1, emit 2, done 7", 7)
}
