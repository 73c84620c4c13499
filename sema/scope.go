package sema

import "yieldshape/api"

// scope is which names stand for something, and of which type that is. No name is let again while it stands.
type scope struct {
	types map[string]api.Type
	order []string // in which they were let
}

func (s *scope) let(name string, t api.Type) {
	s.types[name] = t
	s.order = append(s.order, name)
}

// open begins a block; what it answers ends it: the names that were let in it stand for nothing any more.
func (s *scope) open() (closing func()) {
	begin := len(s.order)
	return func() {
		for _, name := range s.order[begin:] {
			delete(s.types, name)
		}
		s.order = s.order[:begin]
	}
}
