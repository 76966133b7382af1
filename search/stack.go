package search

// stack is things one above the other.
type stack[T any] struct {
	l []T
}

func (s *stack[T]) push(x T) {
	s.l = append(s.l, x)
}

// pop takes the uppermost one away. There must be one.
func (s *stack[T]) pop() T {
	last := len(s.l) - 1
	x := s.l[last]
	clear(s.l[last:]) // so that nothing is kept that no one can ask for
	s.l = s.l[:last]
	return x
}

// top is the uppermost one, to be changed on the spot. There must be one.
func (s *stack[T]) top() *T {
	return &s.l[len(s.l)-1]
}

func (s *stack[T]) height() int {
	return len(s.l)
}
