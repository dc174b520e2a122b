package store

import "horn/api"

// Search is a store with a stack of places to come back to (P7), whatever a place is.
type Search[P any] struct {
	*Store
	places []marked[P]
}

// marked is a place with how much was bound when it was put.
type marked[P any] struct {
	mark  int
	place P
}

// NewSearch is a search with no places, for which as much may be done.
func NewSearch[P any](most int) Search[P] { return Search[P]{Store: New(most)} }

// Height tells how many places there are.
func (s *Search[P]) Height() int { return len(s.places) }

// Put puts a place on the stack.
func (s *Search[P]) Put(place P) {
	s.places = append(s.places, marked[P]{s.Mark(), place})
}

// Cut takes away all places above a height.
func (s *Search[P]) Cut(height int) {
	if height < len(s.places) {
		clear(s.places[height:])
		s.places = s.places[:height]
	}
}

// Back takes the place that was put last, with all undone that was bound since. If there is none, the query ends.
func (s *Search[P]) Back() P {
	top := len(s.places) - 1
	if top < 0 {
		End(api.ErrNone)
	}
	last := s.places[top]
	s.Cut(top)
	s.Undo(last.mark)
	return last.place
}
