// Package pen writes the strings of programs. Every layer that prints programs shares it, so that all of them agree.
package pen

import (
	"strings"

	"chiasmus/api"
	"chiasmus/names"
)

// Pen collects what is written of a program with these declarations.
type Pen struct {
	strings.Builder
	Decls []api.Decl
}

// Put writes strings.
func (p *Pen) Put(l ...string) {
	for _, s := range l {
		p.WriteString(s)
	}
}

// Separate writes what stands before item i of a list.
func (p *Pen) Separate(i int) {
	if i > 0 {
		p.Put(", ")
	}
}

// Type returns the name of a type.
func (p *Pen) Type(t int) string {
	return names.Type(p.Decls, t)
}

// Xtor returns the name of xtor n of a declared type.
func (p *Pen) Xtor(t, n int) string {
	return p.Decls[t-1].Xtors[n].Name
}
