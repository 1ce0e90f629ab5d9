// Package prim is about the primitive operations. Every layer that writes, reads or executes them shares it, so that all of them agree.
package prim

import "chiasmus/api"

// signs has the order of the operations.
var signs = [...]string{"+", "-", "*", "/", "%", "==", "<"}

// Sign returns the sign of the primitive operation n, or an empty string if there is none.
func Sign(n int) string {
	if n < 0 || n >= len(signs) {
		return ""
	}
	return signs[n]
}

// Find returns the primitive operation with the given sign, if there is one.
func Find(sign string) (n int, ok bool) {
	for i, s := range signs {
		if s == sign {
			return i, true
		}
	}
	return 0, false
}

// Result returns the result of the primitive operation n on a and b, or 0 if there is no operation n.
func Result(n, a, b int) int {
	switch n {
	case api.Add:
		return a + b
	case api.Sub:
		return a - b
	case api.Mul:
		return a * b
	case api.Div:
		return quotient(a, b)
	case api.Mod:
		return a - b*quotient(a, b)
	case api.Eq:
		return truth(a == b)
	case api.Lt:
		return truth(a < b)
	}
	return 0
}

// quotient is defined for all integers: 0 divides, too.
func quotient(a, b int) int {
	if b == 0 {
		return 0
	}
	return a / b
}

func truth(b bool) int {
	if b {
		return 1
	}
	return 0
}
