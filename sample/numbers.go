// Package sample makes programs for the tests of the layers. It makes the same ones each time, and no layer calls it.
package sample

// Numbers yields a fixed sequence of numbers that shows no short pattern. Its value is where the sequence begins.
type Numbers uint64

// Below returns the next number, from 0 to n - 1.
func (s *Numbers) Below(n int) int {
	*s = *s*6364136223846793005 + 1442695040888963407
	return int(uint64(*s>>33) % uint64(n))
}

// Pick returns an element of l, which must not be empty.
func Pick[T any](s *Numbers, l []T) T {
	return l[s.Below(len(l))]
}

// integer returns small numbers, so that zeros are not rare, and sometimes the largest ones.
func integer(s *Numbers) int {
	n := s.Below(5) - 1
	if s.Below(20) == 0 {
		n = Pick(s, []int{-1 << 63, 1<<63 - 1, 1 << 32, -1 << 31})
	}
	return n
}
