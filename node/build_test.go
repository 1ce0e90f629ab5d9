package node

import (
	"reflect"
	"testing"

	"chiasmus/api"
)

func TestBuild(t *testing.T) {
	for i, c := range []struct{ got, want api.Node }{
		{Variable{Producer, 3}.Node(), x(3)},
		{Variable{Consumer, 4}.Node(), a(4)},
		{Binding(Variable{Consumer, 5}, 0, done(x(1))), mu(5, done(x(1)))},
		{Binding(Variable{Producer, 6}, 0, done(x(6))), comu(6, done(x(6)))},
		{Binding(Variable{Producer, 6}, 2, done(x(6))), api.Node{Op: api.CMu, N: 6, Type: 2, Args: []api.Node{done(x(6))}}},
		{Cut(0, x(1), a(2)), cut(x(1), a(2))},
		{Cut(3, x(1), a(2)), api.Node{Op: api.KCut, Type: 3, Args: []api.Node{x(1), a(2)}}},
	} {
		if !reflect.DeepEqual(c.got, c.want) {
			t.Errorf("%d: %v, not %v", i, c.got, c.want)
		}
	}
}
