package node

import (
	"reflect"
	"testing"

	"chiasmus/api"
)

func TestCounter(t *testing.T) {
	var c, other Counter
	for i, want := range []Variable{{Producer, 0}, {Producer, 1}, {Consumer, 0}, {Producer, 2}, {Consumer, 1}} {
		if got := c.Fresh(want.Sort); got != want {
			t.Errorf("%d: %v, not %v", i, got, want)
		}
	}
	if got := other.Fresh(Consumer); got != (Variable{Consumer, 0}) {
		t.Errorf("another counter: %v", got)
	}
}

// A fold that rebuilds all nodes numbers only what they bind.
func TestRebuilt(t *testing.T) {
	branches := func(vars ...int) []api.Branch {
		return []api.Branch{{Vars: vars, Co: []bool{true, false}, Body: done(x(3))}, {Body: done(num(7))}}
	}
	of := func(bound, first, second int) api.Node {
		return api.Node{Op: api.KCut, Type: 2, Args: []api.Node{
			mu(bound, api.Node{Op: api.KPrim, N: 3, Args: []api.Node{x(1), num(5), a(1)}}),
			{Op: api.CMatch, Type: 4, Branches: branches(first, second)},
		}}
	}
	n := of(1, 8, 9)
	got := Fold(Scope{}, n, func(f Folded[api.Node]) api.Node {
		return Rebuilt(f, func(own []Binder) []int {
			var out []int
			for _, b := range own {
				out = append(out, 10*b.N+int(b.Sort))
			}
			return out
		})
	})
	if want := of(11, 81, 90); !reflect.DeepEqual(got, want) {
		t.Errorf("%v, not %v", got, want)
	}
	got.Args[0].Args[0].Args[0].N, got.Args[1].Branches[0].Co[0], got.Args[1].Branches[0].Vars[1] = 77, false, 77
	if !reflect.DeepEqual(n, of(1, 8, 9)) {
		t.Errorf("%v has changed", n)
	}
}

func TestBuild(t *testing.T) {
	for i, c := range []struct{ got, want api.Node }{
		{Variable{Producer, 3}.Node(), x(3)},
		{Variable{Consumer, 4}.Node(), a(4)},
		{Binding(Variable{Consumer, 5}, 0, done(x(1))), mu(5, done(x(1)))},
		{Binding(Variable{Producer, 6}, 0, done(x(6))), comu(6, done(x(6)))},
		{Binding(Variable{Producer, 6}, 2, done(x(6))), api.Node{Op: api.CMu, N: 6, Type: 2, Args: []api.Node{done(x(6))}}},
		{Cut(0, x(1), a(2)), cut(x(1), a(2))},
		{Cut(3, x(1), a(2)), api.Node{Op: api.KCut, Type: 3, Args: []api.Node{x(1), a(2)}}},
	} {
		if !reflect.DeepEqual(c.got, c.want) {
			t.Errorf("%d: %v, not %v", i, c.got, c.want)
		}
	}
}
