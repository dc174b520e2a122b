// Package store: what is bound and counted while a question is under way, and what is done with terms then.
package store

import (
	"horn/api"
	"horn/term"
)

// Store has the bindings of one question, and how much may still be done for it.
type Store struct {
	bound []*term.Var // in the order in which they were
	left  int
}

// New is a store with nothing bound, for which as much may be done.
func New(most int) *Store { return &Store{left: most} }

// ending is what ends a query from wherever it is noticed; it gets no further than Caught.
type ending struct {
	err api.Errno
}

// End ends the query that is under way.
func End(err api.Errno) { panic(ending{err}) }

// Caught looks for an answer, and tells what ended that if there is none.
func Caught(look func() string) (answer string, err error) {
	defer func() {
		switch caught := recover().(type) {
		case nil:
		case ending:
			err = caught.err
		default:
			panic(caught)
		}
	}()
	return look(), nil
}

// Count counts one of the things that P10 names.
func (s *Store) Count() {
	if s.left == 0 {
		End(api.ErrFuel)
	}
	s.left--
}

// Mark tells how much is bound, for Undo.
func (s *Store) Mark() int { return len(s.bound) }

// Undo takes back all that was bound since a mark.
func (s *Store) Undo(mark int) {
	for _, v := range s.bound[mark:] {
		v.Value = nil
	}
	clear(s.bound[mark:])
	s.bound = s.bound[:mark]
}

// Bind gives a variable without a value one, in which it must not stand.
func (s *Store) Bind(v *term.Var, t term.Term) {
	v.Value = t
	s.bound = append(s.bound, v)
}
