package direct_test

import (
	"strconv"
	"testing"

	"chiasmus/api"
	"chiasmus/direct"
	"chiasmus/text"
)

const declText = `data list { Nil(), Cons(int, list) }
codata stream { Head(~int), Tail(~stream) }
data pair { Pair(stream, int, stream) }
codata fn { Ap(int, ~int) }
codata act { Do(int, stream, int, ~int), Work(int, int, int, jar, ~int) }
data box { Box(fn) }
codata use { Use(box, ~int) }
data jar { Jar(int, use), Four(int, int, int, jar) }
`

const funText = `
fun from(n : int) : stream = cocase stream { Head() => n, Tail() => from((n + 1)) };
fun sum(l : list) : int = case list(l) { Nil() => 0, Cons(x, r) => (x + sum(r)) };
`

// parse returns the program with these functions and those of funText.
func parse(t *testing.T, funs string) api.Prog {
	t.Helper()
	p, e := text.Parse(declText + funs + funText)
	if e != api.OK {
		t.Fatalf("%s: %d", funs, e)
	}
	return p
}

// program returns the program with this body of main, which has no parameters.
func program(t *testing.T, body string) api.Prog {
	t.Helper()
	return parse(t, "fun main() : int = "+body+";")
}

// says returns a run as Value must return it.
func says(r api.Run) string {
	out := ""
	for _, n := range r.Outs {
		out += "emit " + strconv.Itoa(n) + ", "
	}
	return out + []string{"done " + strconv.Itoa(r.Val), "spent", "stuck"}[r.End]
}

// wanted is the body of main with the run that it must have.
type wanted struct {
	name, body string
	value      string
	steps      int
}

// runs checks the run of p, also with other fuel: all that suffices gives the same run, and less gives a part of it.
func runs(t *testing.T, name string, p api.Prog, inputs []int, value string, steps int) {
	t.Helper()
	whole, e := direct.Run(p, api.MaxFuel, inputs)
	if says(whole) != value || whole.Steps != steps || e != api.OK {
		t.Errorf("%s: %s, %d steps, %d; not %s, %d steps", name, says(whole), whole.Steps, e, value, steps)
		return
	}
	for fuel := range whole.Steps + 2 {
		r, e := direct.Run(p, fuel, inputs)
		if e != api.OK || !follows(r, whole, fuel) {
			t.Errorf("%s: %v %d with fuel %d, and %v with more", name, r, e, fuel, whole)
		}
		if s, e := direct.Value(p, fuel, inputs); s != says(r) || e != api.OK {
			t.Errorf("%s: %q %d with fuel %d, not %q", name, s, e, fuel, says(r))
		}
	}
}

// follows reports whether r, with the given fuel, is what P5.4 says about a run that whole is with more fuel.
func follows(r, whole api.Run, fuel int) bool {
	if fuel >= whole.Steps {
		return says(r) == says(whole) && r.Steps == whole.Steps && r.Val == whole.Val
	}
	return r.End == api.Spent && r.Val == 0 && r.Steps == fuel && isPrefix(r.Outs, whole.Outs)
}

func isPrefix(l, of []int) bool {
	if len(l) > len(of) {
		return false
	}
	for i, n := range l {
		if n != of[i] {
			return false
		}
	}
	return true
}
