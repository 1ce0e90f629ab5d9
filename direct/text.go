package direct

import (
	"strconv"
	"strings"

	"chiasmus/api"
)

func text(r api.Run) string {
	var b strings.Builder
	for _, n := range r.Outs {
		b.WriteString("emit " + strconv.Itoa(n) + ", ")
	}
	b.WriteString(ending(r))
	return b.String()
}

func ending(r api.Run) string {
	switch r.End {
	case api.Spent:
		return "spent"
	case api.Stuck:
		return "stuck"
	}
	return "done " + strconv.Itoa(r.Val)
}
