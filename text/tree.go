package text

// The trees of what a string says, before its names and numbers are looked up. Types are named by words.

type progTree struct {
	decls []declTree
	funs  []funTree
}

type declTree struct {
	codata bool
	name   string
	xtors  []xtorTree
}

type xtorTree struct {
	name string
	args []argTree
}

type argTree struct {
	co  bool
	typ string
}

type funTree struct {
	name   string
	params []paramTree
	result string
	body   termTree
}

type paramTree struct {
	name, typ string
}

// termTree has an operator of terms, and what it needs: word is the name of a variable, a label, an xtor or a function, a number, or the sign of an operation.
type termTree struct {
	op      int
	word    string
	typ     string
	args    []termTree
	clauses []clauseTree
}

type clauseTree struct {
	xtor  string
	names []string
	body  termTree
}
