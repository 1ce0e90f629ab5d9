package prim

import (
	"math"
	"testing"

	"chiasmus/api"
)

func TestSignsOfAll(t *testing.T) {
	for n, want := range map[int]string{
		api.Add: "+",
		api.Sub: "-",
		api.Mul: "*",
		api.Div: "/",
		api.Mod: "%",
		api.Eq:  "==",
		api.Lt:  "<",
	} {
		if s := Sign(n); s != want {
			t.Errorf("operation %d: %q, not %q", n, s, want)
		}
		if m, ok := Find(want); m != n || !ok {
			t.Errorf("%q: %d %v, not %d", want, m, ok, n)
		}
	}
}

func TestNoOperation(t *testing.T) {
	for _, n := range []int{-1, api.Lt + 1, math.MinInt, math.MaxInt} {
		if s := Sign(n); s != "" {
			t.Errorf("operation %d: %q", n, s)
		}
	}
	for _, s := range []string{"", "=", "=>", "++", " +", "+ ", "<=", ">", "add", "."} {
		if n, ok := Find(s); n != 0 || ok {
			t.Errorf("%q: %d %v", s, n, ok)
		}
	}
}
