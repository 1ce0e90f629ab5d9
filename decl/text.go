package decl

import (
	"strings"

	"chiasmus/api"
	"chiasmus/names"
)

func text(l []api.Decl) string {
	var b strings.Builder
	for _, d := range l {
		b.WriteString(keyword(d) + d.Name + " { ")
		for i, x := range d.Xtors {
			separate(&b, i)
			writeXtor(&b, l, x)
		}
		b.WriteString(" }\n")
	}
	return b.String()
}

func keyword(d api.Decl) string {
	if d.Codata {
		return "codata "
	}
	return "data "
}

func writeXtor(b *strings.Builder, l []api.Decl, x api.Xtor) {
	b.WriteString(x.Name + "(")
	for i, a := range x.Args {
		separate(b, i)
		if a.Co {
			b.WriteString("~")
		}
		b.WriteString(names.Type(l, a.Type))
	}
	b.WriteString(")")
}

// separate writes what stands before item i of a list.
func separate(b *strings.Builder, i int) {
	if i > 0 {
		b.WriteString(", ")
	}
}
