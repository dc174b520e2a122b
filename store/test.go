package store

import "horn/term"

// Test does a goal of the language (P8), and tells whether it held. It must have as many arguments as clause.Arity tells.
func (s *Store) Test(name string, args []term.Term) bool {
	switch name {
	case "true":
		return true
	case "fail":
		return false
	case "=":
		return s.Same(args[0], args[1])
	case "\\=":
		return s.differ(args[0], args[1])
	case "==":
		return s.equal(args[0], args[1])
	case "is":
		return s.Same(args[0], term.Number(s.value(args[1])))
	case "var", "nonvar", "atom", "integer":
		return isKind(name, term.Resolve(args[0]))
	}
	left := s.value(args[0])
	return compare(name, left, s.value(args[1]))
}

// differ tells whether two terms cannot be made the same, and leaves nothing bound.
func (s *Store) differ(a, b term.Term) bool {
	mark := s.Mark()
	same := s.Same(a, b)
	s.Undo(mark)
	return !same
}

func isKind(name string, t term.Term) bool {
	switch t.(type) {
	case *term.Var:
		return name == "var"
	case term.Atom:
		return name == "nonvar" || name == "atom"
	case term.Number:
		return name == "nonvar" || name == "integer"
	}
	return name == "nonvar"
}

func compare(sign string, a, b int64) bool {
	switch sign {
	case "<":
		return a < b
	case ">":
		return a > b
	case "=<":
		return a <= b
	case ">=":
		return a >= b
	}
	return a == b
}
