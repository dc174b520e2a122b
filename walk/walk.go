// Package walk: questions answered by walking through a program's clauses (P7).
package walk

import (
	"horn/api"
	"horn/clause"
	"horn/store"
	"horn/term"
)

// most is what may be counted. P10 asks for no less than api.Fuel: as much again makes up for what is counted here and need not be, the steps behind the goals of `->` and `\+`.
const most = 2 * api.Fuel

// Walker is a question on its way through a program.
type Walker struct {
	store.Search[place]
	program clause.Program
	names   []string   // of the question's variables
	vars    []term.Var // the same, as they are by now
	todo    *todo
	begun   bool
}

// New begins a question.
func New(program clause.Program, question *clause.Question) *Walker {
	vars := make([]term.Var, len(question.Vars))
	return &Walker{
		Search:  store.NewSearch[place](most),
		program: program,
		names:   question.Names(),
		vars:    vars,
		todo:    &todo{goal: question.Body, vars: vars},
	}
}

// Answer looks for the next answer, and tells it. If there is none, it ends the query (store.End).
func (w *Walker) Answer() string {
	if w.begun {
		w.back()
	}
	w.begun = true
	for w.todo != nil {
		if row, ok := w.todo.goal.(clause.All); ok {
			w.todo = w.todo.apart(row)
			continue
		}
		if !w.do() {
			w.back()
		}
	}
	return w.answer()
}

// do does the first goal of the list, and tells whether it held.
func (w *Walker) do() bool {
	w.Count()
	first, height := w.todo, w.Height()
	w.todo = first.next
	switch goal := first.goal.(type) {
	case clause.Cut:
		w.Cut(first.height)
	case clause.Either:
		w.Put(place{todo: first.with(goal.Second, first.next)})
		w.todo = first.with(goal.First, first.next)
	case clause.Choice:
		w.Put(place{todo: first.with(goal.Else, first.next)})
		w.todo = first.once(goal.If, height, first.with(goal.Then, first.next))
	case clause.Not:
		w.Put(place{todo: first.next})
		w.todo = first.once(goal.Goal, height, &todo{goal: clause.Call{Name: "fail"}})
	case clause.Call:
		return w.call(goal.Name, term.AllWith(goal.Args, first.vars))
	}
	return true
}

func (w *Walker) call(name string, args []term.Term) bool {
	if _, known := clause.Arity(name); known {
		return w.Test(name, args)
	}
	clauses := w.program[clause.Predicate{Name: name, Arity: len(args)}]
	if len(clauses) == 0 {
		store.End(api.ErrProc)
	}
	return w.try(clauses, args)
}

// try tries the first of some clauses, with a place for the others, and tells whether its head could be made the same as the goal.
func (w *Walker) try(clauses []clause.Clause, args []term.Term) bool {
	w.Count()
	height := w.Height()
	if len(clauses) > 1 {
		w.Put(place{todo: w.todo, clauses: clauses[1:], args: args})
	}
	tried := clauses[0]
	vars := make([]term.Var, len(tried.Vars))
	for i, arg := range tried.Head.Args {
		if !w.Same(term.With(arg, vars), args[i]) {
			return false
		}
	}
	w.todo = &todo{tried.Body, vars, height, w.todo}
	return true
}

// back goes back to the last place from which the search can go on.
func (w *Walker) back() {
again:
	last := w.Back()
	w.todo = last.todo
	if len(last.clauses) > 0 && !w.try(last.clauses, last.args) {
		goto again
	}
}

// answer writes what the question's variables are (P6).
func (w *Walker) answer() string {
	terms := make([]term.Term, len(w.vars))
	for i := range w.vars {
		terms[i] = &w.vars[i]
	}
	return term.NewWriter(w.CountAt).Answer(w.names, terms)
}
