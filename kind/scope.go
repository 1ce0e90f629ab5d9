package kind

import "chiasmus/node"

// scopes know the types of the producer variables and of the consumer variables in scope. Those that an inner variable hides stay beneath it.
type scopes [2]map[int][]int

func newScopes() scopes {
	return scopes{node.Producer: {}, node.Consumer: {}}
}

// bind brings variables into scope, with a type for each; if one of them occurs twice, the last one counts. The function that it returns goes back to what was in scope before.
func (s scopes) bind(l []node.Variable, types []int) (restore func()) {
	for i, x := range l {
		of := s[x.Sort]
		of[x.N] = append(of[x.N], types[i])
	}
	return func() {
		for _, x := range l {
			of := s[x.Sort]
			of[x.N] = of[x.N][:len(of[x.N])-1]
		}
	}
}

// find returns the type of a variable in scope.
func (s scopes) find(x node.Variable) int {
	types := s[x.Sort][x.N]
	return types[len(types)-1]
}
