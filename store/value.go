package store

import (
	"horn/api"
	"horn/term"
)

// value tells the value of a term (P9); where there is none, the query ends.
func (s *Store) value(t term.Term) int64 {
	s.Count()
	switch x := term.Resolve(t).(type) {
	case term.Number:
		return int64(x)
	case *term.Var:
		End(api.ErrInst)
	case *term.Compound:
		if term.IsOperation(x) {
			s.into()
			defer s.out()
			left := s.value(x.Arg(0))
			return operate(x.Name, left, s.value(x.Arg(1)))
		}
	}
	End(api.ErrType)
	return 0
}

func operate(sign string, a, b int64) int64 {
	switch sign {
	case "+":
		return a + b
	case "-":
		return a - b
	case "*":
		return a * b
	}
	if b == 0 {
		End(api.ErrZero)
	}
	if sign == "//" {
		return a / b
	}
	return modulo(a, b)
}

// modulo has the sign of b, where Go's % has that of a.
func modulo(a, b int64) int64 {
	rest := a % b
	if rest != 0 && (rest < 0) != (b < 0) {
		rest += b
	}
	return rest
}
