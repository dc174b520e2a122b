// Package syntax: texts, read by their rules.
package syntax

import (
	"horn/api"
	"horn/clause"
	"horn/term"
)

// Term reads a text that is one term.
func Term(text string) (term.Term, error) {
	return reading(text, (*reader).term)
}

// Program reads a text of clauses.
func Program(text string) ([]clause.Clause, error) {
	return reading(text, (*reader).program)
}

// Question reads a text that is one question.
func Question(text string) (*clause.Question, error) {
	return reading(text, (*reader).question)
}

// fault is what every rule panics with, so that none has to hand an error up; it gets no further than reading.
type fault struct {
	err *api.At
}

func newFault(err api.Errno, place int) fault {
	return fault{&api.At{Err: err, Place: place}}
}

// reading lets a rule read a whole text: the first fault ends it, and is the error.
func reading[T any](text string, rule func(*reader) T) (result T, err error) {
	defer func() {
		switch caught := recover().(type) {
		case nil:
		case fault:
			err = caught.err
		default:
			panic(caught)
		}
	}()
	if len(text) > api.MaxText {
		panic(newFault(api.ErrLong, 0))
	}
	r := &reader{tokens: split(text)}
	// The result is given out only behind the text's end: with a fault there it must stay empty.
	read := rule(r)
	if r.now().kind != end {
		panic(r.misplaced())
	}
	return read, nil
}
