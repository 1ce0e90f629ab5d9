// Package heads is about what xtors and functions are applied to. Every layer that needs the types of it shares this package, so that all of them agree.
package heads

import "chiasmus/api"

// Producers returns the types of the arguments of x that are not consumers, in order.
func Producers(x api.Xtor) []int {
	var types []int
	for _, a := range x.Args {
		if !a.Co {
			types = append(types, a.Type)
		}
	}
	return types
}

// Params returns the types of the parameters of f, in order.
func Params(f api.Fun) []int {
	var types []int
	for _, a := range f.Params {
		types = append(types, a.Type)
	}
	return types
}
