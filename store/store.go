// Package store: what is bound and counted while a question is under way, and what is done with terms then.
package store

import (
	"horn/api"
	"horn/term"
)

// deepest is how deep terms may be gone into. Each term counts, so what P10 says must be told never lies so deep; a machine that may do much more can make terms that are deeper than there is room to go.
const deepest = 2 * api.Fuel

// Store has the bindings of one question, and how much may still be done for it.
type Store struct {
	bound []*term.Var // in the order in which they were
	left  int
	depth int // of the term that is being gone into
}

// New is a store with nothing bound, for which as much may be done.
func New(most int) *Store { return &Store{left: most} }

// ending is what ends a query from wherever it is noticed; it gets no further than Caught.
type ending struct {
	err api.Errno
}

// End ends the query that is under way.
func End(err api.Errno) { panic(ending{err}) }

// Caught looks for an answer, and tells what ended that if there is none.
func Caught(look func() string) (answer string, err error) {
	defer func() {
		switch caught := recover().(type) {
		case nil:
		case ending:
			err = caught.err
		default:
			panic(caught)
		}
	}()
	return look(), nil
}

// Count counts one of the things that P10 names.
func (s *Store) Count() { s.CountAt(s.depth) }

// CountAt counts a term that stands so deep in what it stands in.
func (s *Store) CountAt(depth int) {
	if s.left == 0 || depth > deepest {
		End(api.ErrFuel)
	}
	s.left--
}

// into goes into a term; out has to be called where that ends.
func (s *Store) into() { s.depth++ }

func (s *Store) out() { s.depth-- }

// Mark tells how much is bound, for Undo.
func (s *Store) Mark() int { return len(s.bound) }

// Undo takes back all that was bound since a mark.
func (s *Store) Undo(mark int) {
	for i := len(s.bound) - 1; i >= mark; i-- {
		v := s.bound[i]
		if other, ok := v.Value.(*term.Var); ok {
			other.Held -= v.Held + 1
		}
		v.Value = nil
	}
	clear(s.bound[mark:])
	s.bound = s.bound[:mark]
}

// Bind gives a variable without a value one, in which it must not stand.
func (s *Store) Bind(v *term.Var, t term.Term) {
	if other, ok := t.(*term.Var); ok {
		other.Held += v.Held + 1
	}
	v.Value = t
	s.bound = append(s.bound, v)
}
