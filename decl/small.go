package decl

import (
	"chiasmus/api"
)

// search finds the small types. A constructor waits until all its arguments are known to have values.
type search struct {
	found   []bool     // for each declaration, whether it is known to be small
	waiting [][]func() // for each declaration, whom to tell once it is known to be small
	work    []func()   // those that are still to be told
}

func small(l []api.Decl) []bool {
	s := search{found: make([]bool, len(l)), waiting: make([][]func(), len(l))}
	for i, d := range l {
		if d.Codata {
			continue
		}
		for _, x := range d.Xtors {
			s.watch(i, x.Args)
		}
	}
	s.run()
	return s.found
}

// watch makes declaration i small as soon as each of a constructor's arguments is.
func (s *search) watch(i int, args []api.Arg) {
	if hasConsumer(args) {
		return
	}
	// One more is missing than the arguments: the call from the worklist, so that nothing is found before all constructors wait.
	missing := 1
	told := func() {
		missing--
		if missing == 0 {
			s.find(i)
		}
	}
	for _, a := range args {
		if a.Type != 0 {
			missing++
			s.waiting[a.Type-1] = append(s.waiting[a.Type-1], told)
		}
	}
	s.work = append(s.work, told)
}

func (s *search) find(i int) {
	if !s.found[i] {
		s.found[i] = true
		s.work = append(s.work, s.waiting[i]...)
	}
}

func (s *search) run() {
	for len(s.work) > 0 {
		last := len(s.work) - 1
		next := s.work[last]
		s.work = s.work[:last]
		next()
	}
}
