package step_test

import (
	"math"
	"testing"

	"chiasmus/api"
	"chiasmus/core"
	"chiasmus/sample"
	"chiasmus/step"
)

// runs checks the run of c, also with other fuel: all that suffices gives the same run (P10.4), and less gives a part of it.
func runs(t *testing.T, name string, c api.Core, inputs []int, want api.Run) {
	t.Helper()
	whole, e := step.Run(c, api.MaxFuel, inputs)
	if !sameRun(whole, want) || e != api.OK {
		t.Errorf("%s: %v %d, not %v", name, whole, e, want)
		return
	}
	for fuel := range whole.Steps + 2 {
		r, e := step.Run(c, fuel, inputs)
		if e != api.OK || !follows(r, whole, fuel) {
			t.Errorf("%s: %v %d with fuel %d, and %v with more", name, r, e, fuel, whole)
		}
	}
}

// follows reports whether r, with the given fuel, is as P10.4 says if whole is the run with more fuel.
func follows(r, whole api.Run, fuel int) bool {
	if fuel >= whole.Steps {
		return sameRun(r, whole)
	}
	n := len(r.Outs)
	return n <= len(whole.Outs) && sameRun(r, api.Run{End: api.Spent, Outs: whole.Outs[:n], Steps: fuel})
}

func TestP10_1Runs(t *testing.T) {
	for name, c := range map[string]struct {
		from   string
		inputs []int
		want   api.Run
	}{
		"the example of chapter 8": {"fun main(x0 : int) = cut(int, mu(a0 : int, prim(+, x0, 1, a0)), comu(x1 : int, done(x1)));\n",
			[]int{4}, api.Run{Val: 5, Steps: 4}},
		"the end alone":           {"fun main(x0 : int) = done(x0);\n", []int{-7}, api.Run{Val: -7, Steps: 1}},
		"the order of the inputs": {"fun main(x1 : int, x0 : int) = emit(x0, emit(x1, done(3)));\n", []int{math.MinInt, 2}, api.Run{Val: 3, Outs: []int{2, math.MinInt}, Steps: 3}},
		"what is focused": {"fun main(x0 : int) = emit(mu(a0 : int, prim(*, x0, mu(a1 : int, emit(7, cut(int, 2, a1))), a0)), done(9));\n",
			[]int{4}, api.Run{Val: 9, Outs: []int{7, 8}, Steps: 8}},
		"the order of arguments": {"fun main() = call f(mu(a0 : int, emit(1, cut(int, 10, a0))), comu(x0 : int, done(x0)), mu(a0 : int, emit(2, cut(int, 20, a0))));\nfun f(x0 : int, a0 : int, x1 : int) = prim(-, x0, x1, a0);\n",
			nil, api.Run{Val: -10, Outs: []int{1, 2}, Steps: 10}},
		"a list is evaluated once": {"fun main() = cut(list, mu(a0 : list, emit(1, cut(list, Cons(5, Nil()), a0))), comu(x0 : list, cut(list, x0, match list { Nil() => done(0), Cons(x1, x2) => cut(list, x0, match list { Nil() => done(0), Cons(x3, x4) => done(x3) }) })));\n",
			nil, api.Run{Val: 5, Outs: []int{1}, Steps: 6}},
		"a stream is evaluated each time": {"fun main() = cut(stream, mu(a0 : stream, emit(1, call f(2, a0))), comu(x0 : stream, cut(stream, x0, Head(comu(x1 : int, cut(stream, x0, Head(comu(x2 : int, prim(*, x1, x2, comu(x3 : int, done(x3)))))))))));\nfun f(x0 : int, a0 : stream) = cut(stream, match stream { Head(a1) => cut(int, x0, a1), Tail(a1) => call f(x0, a1) }, a0);\n",
			nil, api.Run{Val: 4, Outs: []int{1, 1}, Steps: 14}},
		"a sum": {"fun main(x0 : int) = call s(x0, comu(x0 : int, done(x0)));\nfun s(x0 : int, a0 : int) = ifz(x0, cut(int, 0, a0), emit(x0, prim(+, mu(a1 : int, call s(mu(a2 : int, prim(-, x0, 1, a2)), a1)), x0, a0)));\n",
			[]int{3}, api.Run{Val: 6, Outs: []int{3, 2, 1}, Steps: 31}},
		"a jump": {"fun main() = cut(int, mu(a0 : int, prim(+, 1, mu(a1 : int, cut(int, 5, a0)), a0)), comu(x0 : int, done(x0)));\n",
			nil, api.Run{Val: 5, Steps: 4}},
	} {
		runs(t, name, parse(t, c.from), c.inputs, c.want)
	}
}

// A run that does not end uses all fuel.
func TestP10_1Loop(t *testing.T) {
	c := parse(t, "fun main(x0 : int) = emit(x0, cut(int, mu(a0 : int, prim(+, x0, 1, a0)), comu(x0 : int, call main(x0))));\n")
	for _, fuel := range []int{0, 1, 2, 5, 6, 7, 4999, 5000, api.MaxFuel - 1, api.MaxFuel} {
		r, e := step.Run(c, fuel, []int{3})
		if r.End != api.Spent || r.Val != 0 || r.Steps != fuel || len(r.Outs) != (fuel+4)/5 || e != api.OK {
			t.Errorf("fuel %d: %d steps, %d emitted, %d", fuel, r.Steps, len(r.Outs), e)
		}
		for i, n := range r.Outs {
			if n != i+3 {
				t.Fatalf("emitted %d, not %d", n, i+3)
			}
		}
	}
}

// count counts what happened in runs: how they ended, the rules, and the emissions.
type count struct {
	ends  [3]int
	rules map[string]int
	outs  int
}

func TestP10AgainstTheReference(t *testing.T) {
	var s sample.Numbers = 1
	all := count{rules: map[string]int{}}
	for _, c := range made(t, 2, 7, 3000) {
		fuel, inputs := s.Below(60), []int{s.Below(5) - 2, s.Below(5) - 2}
		ref := newReference(t, c)
		want, commands, e := ref.run(fuel, inputs)
		got, f := step.Run(c, fuel, inputs)
		if !sameRun(got, want) || e != f {
			t.Fatalf("%v %d, not %v %d\n%s", got, f, want, e, text(c))
		}
		if got := start(t, c, inputs); !core.Same(got, commands[0]) {
			t.Fatalf("%s\nnot\n%s", shown(c, got), shown(c, commands[0]))
		}
		nexts(t, c, ref, commands[max(0, len(commands)-9):])
		all.ends[want.End]++
		all.outs += len(want.Outs)
		for name, n := range ref.rules {
			all.rules[name] += n
		}
	}
	if all.ends[api.Done] < 1000 || all.ends[api.Spent] < 100 || all.ends[api.Stuck] > 0 || all.outs < 500 {
		t.Errorf("%v, %d emitted", all.ends, all.outs)
	}
	for _, name := range []string{"mu+", "mu-", "comu+", "comu-", "match+", "match-", "prim", "ifz", "emit", "call", "done"} {
		if all.rules[name] < 100 {
			t.Errorf("%s was applied %d times", name, all.rules[name])
		}
	}
}

// nexts compares what comes after each of some commands of c.
func nexts(t *testing.T, c api.Core, ref *reference, commands []api.Node) {
	t.Helper()
	for _, k := range commands {
		want, after := api.Run{}, k
		wanted := api.OK
		if !ref.next(&want, &after) {
			want, wanted = api.Run{}, api.ErrLarge
		}
		next, r, over, e := step.Next(c, k)
		if !sameRun(r, want) || over != (k.Op == api.KDone) || e != wanted {
			t.Fatalf("%s: %v %v %d, not %v %d", shown(c, k), r, over, e, want, wanted)
		}
		if over || e != api.OK {
			after = api.Node{}
		}
		if !core.Same(next, after) {
			t.Fatalf("%s: %s, not %s", shown(c, k), shown(c, next), shown(c, after))
		}
	}
}

// A run that is not Spent is the same with more fuel, and one that is Spent emits a part.
func TestP10_4Fuel(t *testing.T) {
	var s sample.Numbers = 3
	ends := [3]int{}
	for _, c := range made(t, 4, 7, 3000) {
		inputs := []int{s.Below(5) - 2, s.Below(5) - 2}
		more := s.Below(200)
		whole, e := step.Run(c, more, inputs)
		if e == api.ErrLarge {
			continue
		}
		ends[whole.End]++
		fuel := s.Below(min(more, whole.Steps+1) + 1)
		r, e := step.Run(c, fuel, inputs)
		if e != api.OK || !follows(r, whole, fuel) {
			t.Fatalf("%v %d with fuel %d, and %v with %d", r, e, fuel, whole, more)
		}
	}
	if ends[api.Done] < 1000 || ends[api.Spent] < 100 {
		t.Error(ends)
	}
}
