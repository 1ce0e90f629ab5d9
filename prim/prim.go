// Package prim is about the primitive operations. Every layer that writes or reads their signs shares it, so that all of them agree.
package prim

// signs has the order of the operations.
var signs = [...]string{"+", "-", "*", "/", "%", "==", "<"}

// Sign returns the sign of the primitive operation n, or an empty string if there is none.
func Sign(n int) string {
	if n < 0 || n >= len(signs) {
		return ""
	}
	return signs[n]
}

// Find returns the primitive operation with the given sign, if there is one.
func Find(sign string) (n int, ok bool) {
	for i, s := range signs {
		if s == sign {
			return i, true
		}
	}
	return 0, false
}
