package direct_test

import (
	"reflect"
	"testing"

	"chiasmus/api"
	"chiasmus/check"
	"chiasmus/direct"
	"chiasmus/sample"
	"chiasmus/term"
	"chiasmus/text"
)

const heads = `data list { Nil(), Cons(int, list) }
codata stream { Head(~int), Tail(~stream) }
data pair { Pair(stream, int, fn, list), Single(stream) }
codata fn { Ap(list, stream, int, ~list), Get(~int), To(fn, ~fn), Pick(pair, stream, ~pair) }
fun main(x : int, l : int) : int = 1;
fun sum(l : list) : int = 1;
fun from(x : int) : stream = from(x);
fun mix(s : stream, l : list, g : fn) : pair = mix(s, l, g);
fun pick(k : pair, x : int, s : stream) : fn = pick(k, x, s);
`

// made returns programs with any bodies, and with types as the oddity says.
func made(t *testing.T, seed sample.Numbers, oddity, count int) []api.Prog {
	t.Helper()
	p, e := text.Parse(heads)
	if e != api.OK {
		t.Fatal(e)
	}
	m := sample.NewMaker(p, &seed, oddity)
	var out []api.Prog
	for len(out) < count {
		p := m.Prog(3 + m.Below(4))
		if term.Check(p) == api.OK {
			out = append(out, p)
		}
	}
	return out
}

// count counts how runs end, and in how many a label is used again.
type count struct {
	ends  [3]int
	again int
}

// compare runs the programs with any fuel and inputs, and compares the runs with those of the reference.
func compare(t *testing.T, l []api.Prog, s sample.Numbers) (c count) {
	t.Helper()
	for _, p := range l {
		fuel, inputs := s.Below(400), []int{s.Below(5) - 2, s.Below(5) - 2}
		want := reach(p, fuel, inputs)
		r, e := direct.Run(p, fuel, inputs)
		if !same(r, want.run) || e != api.OK {
			source, _ := text.String(p)
			t.Fatalf("%v with fuel %d: %v %d, not %v\n%s", inputs, fuel, r, e, want.run, source)
		}
		if v, e := direct.Value(p, fuel, inputs); v != says(r) || e != api.OK {
			t.Fatalf("%q %d, not %q", v, e, says(r))
		}
		c.ends[r.End]++
		if want.again > 0 {
			c.again++
		}
	}
	return c
}

func same(a, b api.Run) bool {
	return says(a) == says(b) && a.Val == b.Val && a.Steps == b.Steps
}

func TestP5_1AgainstTheReference(t *testing.T) {
	c := compare(t, made(t, 1, 100, 3000), 2)
	if c.ends[api.Done] < 500 || c.ends[api.Spent] < 500 || c.ends[api.Stuck] < 100 || c.again < 5 {
		t.Errorf("too few of one kind: %v", c)
	}
}

func TestP5_3NeverStuck(t *testing.T) {
	l := made(t, 3, 0, 3000)
	for _, p := range l {
		if e := check.Check(p); e != api.OK {
			t.Fatal(e)
		}
	}
	c := compare(t, l, 4)
	if c.ends[api.Done] < 500 || c.ends[api.Spent] < 500 || c.ends[api.Stuck] > 0 || c.again < 5 {
		t.Errorf("stuck, or too few of one kind: %v", c)
	}
}

func TestP5_4Fuel(t *testing.T) {
	var s sample.Numbers = 5
	for _, p := range made(t, 6, 100, 3000) {
		inputs := []int{s.Below(5) - 2, s.Below(5) - 2}
		more := s.Below(400)
		whole, _ := direct.Run(p, more, inputs)
		fuel := s.Below(min(more, whole.Steps+1) + 1)
		r, e := direct.Run(p, fuel, inputs)
		if e != api.OK || !follows(r, whole, fuel) {
			t.Fatalf("%v %d with fuel %d, and %v with %d", r, e, fuel, whole, more)
		}
	}
}

// The same call has the same result each time.
func TestR7Determinism(t *testing.T) {
	l := made(t, 7, 100, 300)
	first := runAll(l)
	if !reflect.DeepEqual(runAll(l), first) {
		t.Error("a second run differs")
	}
}

func runAll(l []api.Prog) []api.Run {
	var out []api.Run
	for i, p := range l {
		r, _ := direct.Run(p, 300, []int{i, -i})
		out = append(out, r)
	}
	return out
}

// No call may panic (P1), whatever the fields of a term are.
func TestP1NoPanic(t *testing.T) {
	var s sample.Numbers = 8
	ends := map[api.Errno]int{}
	for _, p := range made(t, 9, 100, 5000) {
		sample.Disturb(&s, &p.Funs[s.Below(len(p.Funs))].Body)
		r, e := direct.Run(p, 100, []int{1, 2})
		if e != api.OK && !reflect.DeepEqual(r, api.Run{}) {
			t.Fatalf("%v %d", r, e)
		}
		if v, f := direct.Value(p, 100, []int{1, 2}); f != e || e == api.OK && v != says(r) || e != api.OK && v != "" {
			t.Fatalf("%q %d, not %v %d", v, f, r, e)
		}
		ends[e]++
	}
	if len(ends) != 2 || ends[api.OK] < 500 || ends[api.ErrProg] < 500 {
		t.Errorf("other errors, or too few of one kind: %v", ends)
	}
}
