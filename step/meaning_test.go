package step_test

import (
	"slices"
	"testing"

	"chiasmus/api"
	"chiasmus/check"
	"chiasmus/direct"
	"chiasmus/lower"
	"chiasmus/sample"
	"chiasmus/step"
	src "chiasmus/text"
)

// The declarations and the heads of functions of the programs that are made here.
const sourceText = `data list { Nil(), Cons(int, list) }
codata stream { Head(~int), Tail(~stream) }
data pair { Pair(stream, int, fn, list), Single(stream) }
codata fn { Ap(list, stream, int, ~list), Get(~int), To(fn, ~fn), Pick(pair, stream, ~pair) }
`

const sourceHeads = `fun main(x : int, l : int) : int = 1;
fun sum(l : list) : int = 1;
fun from(x : int) : stream = from(x);
fun mix(s : stream, l : list, g : fn) : pair = mix(s, l, g);
fun pick(k : pair, x : int, s : stream) : fn = pick(k, x, s);
`

func source(t *testing.T, s string) api.Prog {
	t.Helper()
	p, e := src.Parse(sourceText + s)
	if e != api.OK {
		t.Fatalf("%s: %d", s, e)
	}
	return p
}

func lowered(t *testing.T, p api.Prog) api.Core {
	t.Helper()
	c, e := lower.Lower(p)
	if e != api.OK {
		t.Fatalf("%v: %d", p, e)
	}
	return c
}

// sources returns well-typed programs of the source language, the same ones for the same seed.
func sources(t *testing.T, seed sample.Numbers, count int) []api.Prog {
	t.Helper()
	m := sample.NewMaker(source(t, sourceHeads), &seed, 0)
	var out []api.Prog
	for len(out) < count {
		p := m.Prog(2 + m.Below(5))
		if check.Check(p) == api.OK {
			out = append(out, p)
		}
	}
	return out
}

// sameMeaning compares all but the steps: those of a direct run are others.
func sameMeaning(a, b api.Run) bool {
	return a.End == b.End && a.Val == b.Val && slices.Equal(a.Outs, b.Outs)
}

// P8.4 (and W1): the translation of a program emits the same integers and has the same result. Of a program that does not end, the shorter run emits a part of what the longer one emits.
func TestP8_4Meaning(t *testing.T) {
	s := sample.Numbers(5)
	emitted, endless, large := 0, 0, 0
	for _, p := range sources(t, 6, 2000) {
		inputs := []int{s.Below(5) - 2, s.Below(5) - 2}
		want, e := direct.Run(p, 1500, inputs)
		if e != api.OK {
			t.Fatal(e)
		}
		got, e := step.Run(lowered(t, p), 6000, inputs)
		switch {
		case e == api.ErrLarge && want.End == api.Spent:
			large++
		case e != api.OK:
			t.Fatalf("%v: %d, not %v", p, e, want)
		case want.End == api.Done && !sameMeaning(got, want):
			t.Fatalf("%v: %v, not %v", p, got, want)
		case want.End == api.Done:
			emitted += min(1, len(want.Outs))
		default:
			endless++
			if !isPrefix(want.Outs, got.Outs) && (got.End == api.Done || !isPrefix(got.Outs, want.Outs)) {
				t.Fatalf("%v: %v, not %v", p, got, want)
			}
		}
	}
	if emitted < 200 || endless > 800 || large > 400 {
		t.Errorf("%d emit something and end, %d do not end, %d become too large", emitted, endless, large)
	}
}

func isPrefix(l, of []int) bool {
	return len(l) <= len(of) && slices.Equal(l, of[:len(l)])
}

// Translations run longer than other programs that are made.
func TestP10TranslationsAgainstTheReference(t *testing.T) {
	s := sample.Numbers(7)
	all := count{rules: map[string]int{}}
	for _, p := range sources(t, 8, 300) {
		c := lowered(t, p)
		fuel, inputs := s.Below(100), []int{s.Below(5) - 2, s.Below(5) - 2}
		ref := newReference(t, c)
		want, commands, e := ref.run(fuel, inputs)
		got, f := step.Run(c, fuel, inputs)
		if !sameRun(got, want) || e != f {
			t.Fatalf("%v %d, not %v %d\n%s", got, f, want, e, text(c))
		}
		nexts(t, c, ref, commands[max(0, len(commands)-5):])
		all.ends[want.End]++
		for name, n := range ref.rules {
			all.rules[name] += n
		}
	}
	if all.ends[api.Done] < 100 || all.ends[api.Spent] < 100 || all.ends[api.Stuck] > 0 {
		t.Errorf("%v", all.ends)
	}
	for _, name := range []string{"mu+", "mu-", "comu+", "comu-", "match+", "match-", "prim", "ifz", "emit", "call"} {
		if all.rules[name] < 50 {
			t.Errorf("%s was applied %d times", name, all.rules[name])
		}
	}
}

func TestP8_4Programs(t *testing.T) {
	const from = "fun from(n : int) : stream = cocase stream { Head() => n, Tail() => from((n + 1)) };"
	const sum = "fun sum(l : list) : int = case list(l) { Nil() => 0, Cons(x, r) => (x + sum(r)) };"
	for name, c := range map[string]struct {
		source string
		inputs []int
		want   api.Run
	}{
		"the example of chapter 3": {"fun main(n : int) : int = sum(Cons(n, Cons(2, Nil())));" + sum, []int{5}, api.Run{Val: 7}},
		"a stream, each time":      {"fun main() : int = let(x : stream = emit(1, from(0)), (x.Head() + x.Head()));" + from, nil, api.Run{Val: 0, Outs: []int{1, 1}}},
		"an integer, once":         {"fun main() : int = let(x : int = emit(1, 5), (x + x));", nil, api.Run{Val: 10, Outs: []int{1}}},
		"a jump":                   {"fun main() : int = label(k : int, (emit(1, 2) + (goto(k, emit(3, 4) : int) + emit(5, 6))));", nil, api.Run{Val: 4, Outs: []int{1, 3}}},
		"a jump out of an object":  {"fun main() : int = label(k : int, (100 + label(j : stream, cocase stream { Head() => goto(k, 7 : int), Tail() => goto(j, from(8) : stream) }).Tail().Head()));" + from, nil, api.Run{Val: 109}},
		"the order of arguments":   {"fun main() : int = f(emit(1, 10), emit(2, from(20)), emit(3, 30)); fun f(a : int, b : stream, c : int) : int = ((c - a) + (b.Head() + b.Tail().Head()));" + from, nil, api.Run{Val: 61, Outs: []int{1, 3, 2, 2}}},
		"arguments of observations": {"fun main() : int = case list(emit(1, cocase fn { Ap(l, s, n) => emit(n, Cons(s.Head(), l)), Get() => 1, To(f) => f, Pick(p, s) => p }).Ap(emit(2, Nil()), emit(3, from(4)), emit(5, 6))) { Nil() => 0, Cons(a, b) => a };" + from,
			nil, api.Run{Val: 4, Outs: []int{2, 5, 1, 6, 3}}},
		"a call of main":  {"fun main(n : int) : int = ifz(n, 7, emit(n, (main((n - 1)) + 1)));", []int{5}, api.Run{Val: 12, Outs: []int{5, 4, 3, 2, 1}}},
		"a long list":     {"fun main(n : int) : int = sum(down(n)); fun down(n : int) : list = ifz(n, Nil(), Cons(n, down((n - 1))));" + sum, []int{500}, api.Run{Val: 125250}},
		"far in a stream": {"fun main(n : int) : int = at(from(0), n); fun at(s : stream, n : int) : int = ifz(n, s.Head(), at(s.Tail(), (n - 1)));" + from, []int{500}, api.Run{Val: 500}},
	} {
		p := source(t, c.source)
		got, e := step.Run(lowered(t, p), api.MaxFuel, c.inputs)
		if !sameMeaning(got, c.want) || e != api.OK {
			t.Errorf("%s: %v %d, not %v", name, got, e, c.want)
		}
		if r, e := direct.Run(p, api.MaxFuel, c.inputs); !sameMeaning(r, c.want) || e != api.OK {
			t.Errorf("%s: %v %d directly, not %v", name, r, e, c.want)
		}
	}
}
