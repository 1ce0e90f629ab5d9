package prim

import (
	"math"
	"testing"

	"chiasmus/api"
)

func TestSignsOfAll(t *testing.T) {
	for n, want := range map[int]string{
		api.Add: "+",
		api.Sub: "-",
		api.Mul: "*",
		api.Div: "/",
		api.Mod: "%",
		api.Eq:  "==",
		api.Lt:  "<",
	} {
		if s := Sign(n); s != want {
			t.Errorf("operation %d: %q, not %q", n, s, want)
		}
		if m, ok := Find(want); m != n || !ok {
			t.Errorf("%q: %d %v, not %d", want, m, ok, n)
		}
	}
}

func TestNoOperation(t *testing.T) {
	for _, n := range []int{-1, api.Lt + 1, math.MinInt, math.MaxInt} {
		if s := Sign(n); s != "" {
			t.Errorf("operation %d: %q", n, s)
		}
	}
	for _, n := range []int{-1, api.Lt + 1, math.MinInt, math.MaxInt} {
		if r := Result(n, 7, 2); r != 0 {
			t.Errorf("operation %d: %d", n, r)
		}
	}
	for _, s := range []string{"", "=", "=>", "++", " +", "+ ", "<=", ">", "add", "."} {
		if n, ok := Find(s); n != 0 || ok {
			t.Errorf("%q: %d %v", s, n, ok)
		}
	}
}

func TestResults(t *testing.T) {
	const least, most = math.MinInt, math.MaxInt
	for _, c := range []struct{ op, a, b, want int }{
		{api.Add, 7, 2, 9}, {api.Add, 7, -9, -2}, {api.Add, most, 1, least}, {api.Add, least, least, 0},
		{api.Sub, 7, 2, 5}, {api.Sub, 2, 7, -5}, {api.Sub, least, 1, most}, {api.Sub, 0, least, least},
		{api.Mul, 7, -2, -14}, {api.Mul, most, 2, -2}, {api.Mul, least, -1, least}, {api.Mul, 1 << 32, 1 << 32, 0},
		{api.Div, 7, 2, 3}, {api.Div, -7, 2, -3}, {api.Div, 7, -2, -3}, {api.Div, -7, -2, 3}, {api.Div, 2, 7, 0},
		{api.Div, 7, 0, 0}, {api.Div, 0, 0, 0}, {api.Div, least, 0, 0}, {api.Div, least, -1, least}, {api.Div, most, -1, -most},
		{api.Mod, 7, 2, 1}, {api.Mod, -7, 2, -1}, {api.Mod, 7, -2, 1}, {api.Mod, -7, -2, -1}, {api.Mod, 2, 7, 2},
		{api.Mod, 7, 0, 7}, {api.Mod, -7, 0, -7}, {api.Mod, least, 0, least}, {api.Mod, least, -1, 0}, {api.Mod, least, most, -1},
		{api.Eq, 7, 7, 1}, {api.Eq, 7, 2, 0}, {api.Eq, 2, 7, 0}, {api.Eq, least, least, 1}, {api.Eq, 0, least, 0},
		{api.Lt, 2, 7, 1}, {api.Lt, 7, 2, 0}, {api.Lt, 7, 7, 0}, {api.Lt, -1, 0, 1}, {api.Lt, least, most, 1}, {api.Lt, most, least, 0},
	} {
		if n := Result(c.op, c.a, c.b); n != c.want {
			t.Errorf("%d %s %d is %d, not %d", c.a, Sign(c.op), c.b, n, c.want)
		}
	}
}
