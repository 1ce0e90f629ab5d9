// Package copies makes values that share no memory with those that they are equal to: what a layer returns must not share any with its arguments.
package copies

import (
	"slices"

	"chiasmus/api"
)

// Decls returns declarations that are equal to l.
func Decls(l []api.Decl) []api.Decl {
	out := slices.Clone(l)
	for i, d := range l {
		out[i].Xtors = slices.Clone(d.Xtors)
		for n, x := range d.Xtors {
			out[i].Xtors[n].Args = slices.Clone(x.Args)
		}
	}
	return out
}
