package core

import (
	"chiasmus/api"
	"chiasmus/node"
)

// occurrences returns how often each variable occurs free in n.
func occurrences(n api.Node) map[node.Variable]int {
	count := map[node.Variable]int{}
	node.Fold(node.Scope{}, n, func(f node.Folded[struct{}]) (none struct{}) {
		if x, ok := node.Occurrence(f.Node); ok && f.By == nil {
			count[x]++
		}
		return none
	})
	return count
}
