package walk

import (
	"horn/clause"
	"horn/term"
)

// todo is a list of goals to do. Lists share what stands behind their first goals, so none is ever changed.
type todo struct {
	goal   clause.Goal
	vars   []term.Var // of the goal's clause, for this time that it was tried
	height int        // of the stack, to which its cut cuts
	next   *todo
}

// with puts another goal of the same clause, with the same height, ahead of a list.
func (l *todo) with(goal clause.Goal, next *todo) *todo {
	return &todo{goal, l.vars, l.height, next}
}

// once puts a goal of the same clause ahead of a list, with a height of its own, to which the stack is cut behind it, too.
func (l *todo) once(goal clause.Goal, height int, next *todo) *todo {
	cut := &todo{clause.Cut{}, nil, height, next}
	return &todo{goal, l.vars, height, cut}
}

// apart takes the first one out of a row of goals. The others stay a row: a body that is begun again and again must not take room for all its goals each time.
func (l *todo) apart(row clause.All) *todo {
	switch len(row) {
	case 0:
		return l.next
	case 1:
		return l.with(row[0], l.next)
	}
	return l.with(row[0], l.with(row[1:], l.next))
}

// place is where the search comes back to: a list of goals, ahead of which clauses may be left to try.
type place struct {
	todo    *todo
	clauses []clause.Clause
	args    []term.Term
}
