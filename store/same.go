package store

import "horn/term"

// Same makes two terms the same, and tells whether it could. What it bound until it could not stays bound.
func (s *Store) Same(a, b term.Term) bool {
	s.Count()
	a, b = term.Resolve(a), term.Resolve(b)
	if v, ok := a.(*term.Var); ok {
		return s.become(v, b)
	}
	if v, ok := b.(*term.Var); ok {
		return s.become(v, a)
	}
	return s.sameOutside(a, b, s.Same)
}

// become gives a variable without a value one, unless it would stand in its own value.
func (s *Store) become(v *term.Var, t term.Term) bool {
	if other, ok := t.(*term.Var); ok {
		s.join(v, other)
		return true
	}
	if s.standsIn(v, t) {
		return false
	}
	s.Bind(v, t)
	return true
}

// join makes two variables without a value one. The one that fewer have come to be becomes the other, so that no value is ever far to seek, however many are joined.
func (s *Store) join(a, b *term.Var) {
	switch {
	case a == b:
	case a.Held < b.Held:
		s.Bind(a, b)
	default:
		s.Bind(b, a)
	}
}

// standsIn looks for a variable. Only what has arguments is looked into, so nothing else counts; where one of them stands again it is not looked into again.
func (s *Store) standsIn(v *term.Var, t term.Term) bool {
	switch x := term.Resolve(t).(type) {
	case *term.Var:
		return x == v
	case *term.Compound:
		s.Count()
		s.into()
		defer s.out()
		for _, arg := range x.Args {
			if s.standsIn(v, arg) {
				return true
			}
		}
	}
	return false
}

// equal tells whether two terms are the same as they are.
func (s *Store) equal(a, b term.Term) bool {
	s.Count()
	return s.sameOutside(term.Resolve(a), term.Resolve(b), s.equal)
}

// sameOutside tells whether two terms are the same kind of thing with the same name; pair is asked of their arguments.
func (s *Store) sameOutside(a, b term.Term, pair func(a, b term.Term) bool) bool {
	x, ok := a.(*term.Compound)
	if !ok {
		return a == b
	}
	y, ok := b.(*term.Compound)
	if !ok || x.Name != y.Name || x.Arity() != y.Arity() {
		return false
	}
	s.into()
	defer s.out()
	for i := range x.Arity() {
		if !pair(x.Arg(i), y.Arg(i)) {
			return false
		}
	}
	return true
}
