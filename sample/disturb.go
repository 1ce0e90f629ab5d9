package sample

import "chiasmus/api"

// Disturb changes one field of t or of one of its subterms, mostly so that t is no longer valid.
func Disturb(s *Numbers, t *api.Term) {
	if len(t.Args) > 0 && s.Below(2) == 0 {
		Disturb(s, &t.Args[s.Below(len(t.Args))])
		return
	}
	if len(t.Clauses) > 0 && s.Below(2) == 0 {
		Disturb(s, &t.Clauses[s.Below(len(t.Clauses))].Body)
		return
	}
	odd := []int{-1 << 63, -2, -1, 0, 1, 2, 3, 4, 5, 8, 12, 13, 1<<63 - 1}
	switch s.Below(6) {
	case 0:
		t.Op = Pick(s, odd)
	case 1:
		t.N = Pick(s, odd)
	case 2:
		t.Type = Pick(s, odd)
	case 3:
		t.Args = t.Args[:s.Below(len(t.Args)+1)]
	case 4:
		t.Clauses = t.Clauses[:s.Below(len(t.Clauses)+1)]
	case 5:
		t.Name = Pick(s, []string{"", "X", "q", "l"})
	}
}
