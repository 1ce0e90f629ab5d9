package lower_test

import (
	"testing"

	"chiasmus/api"
	"chiasmus/check"
	"chiasmus/core"
	"chiasmus/lower"
	"chiasmus/sample"
	"chiasmus/text"
)

const declText = `data list { Nil(), Cons(int, list) }
codata stream { Head(~int), Tail(~stream) }
data pair { Pair(stream, int, fn, list), Single(stream) }
codata fn { Ap(list, stream, int, ~list), Get(~int), To(fn, ~fn), Pick(pair, stream, ~pair) }
`

// The types that declText declares.
const (
	list = 1 + iota
	stream
	pair
	fn
)

const headText = `fun main(x : int, l : int) : int = 1;
fun sum(l : list) : int = 1;
fun from(x : int) : stream = from(x);
fun mix(s : stream, l : list, g : fn) : pair = mix(s, l, g);
fun pick(k : pair, x : int, s : stream) : fn = pick(k, x, s);
`

func parse(t *testing.T, s string) api.Prog {
	t.Helper()
	p, e := text.Parse(s)
	if e != api.OK {
		t.Fatalf("%s: %d", s, e)
	}
	return p
}

func lowered(t *testing.T, p api.Prog) api.Core {
	t.Helper()
	c, e := lower.Lower(p)
	if e != api.OK {
		t.Fatalf("%v: %d", p, e)
	}
	return c
}

// made returns programs with any bodies, and with types as the oddity says.
func made(t *testing.T, seed sample.Numbers, oddity, count int) []api.Prog {
	t.Helper()
	p := parse(t, declText+headText)
	m := sample.NewMaker(p, &seed, oddity)
	var out []api.Prog
	for len(out) < count {
		p := m.Prog(2 + m.Below(5))
		if check.Check(p) != api.ErrProg { // it is not too large
			out = append(out, p)
		}
	}
	return out
}

// wants compares c with the core program that has a string.
func wants(t *testing.T, name string, c api.Core, want string) {
	t.Helper()
	d, e := core.Parse(want)
	if e != api.OK {
		t.Fatalf("%s: %s: %d", name, want, e)
	}
	if same, e := core.Equal(c, d); !same || e != api.OK {
		got, _ := core.String(c)
		t.Errorf("%s: %d\n%s\nnot\n%s", name, e, got, want)
	}
}
