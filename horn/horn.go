// Package horn: programs of clauses, and questions: see DOC.md.
package horn

import (
	"horn/api"
	"horn/clause"
	"horn/compile"
	"horn/machine"
	"horn/store"
	"horn/syntax"
	"horn/term"
	"horn/walk"
)

// Base is a program.
type Base struct {
	program clause.Program
}

// engine looks for answers: each call tells the next one, or ends the query (store.End).
type engine interface {
	Answer() string
}

// Query is a question under way.
type Query struct {
	engine engine
	ended  error // what ended it; then the engine is gone
}

// Read tells a term's one form (P4).
func Read(s string) (string, error) {
	t, err := syntax.Term(s)
	if err != nil {
		return "", err
	}
	return term.Form(t), nil
}

// Load reads a program (P5).
func Load(s string) (*Base, error) {
	clauses, err := syntax.Program(s)
	if err != nil {
		return nil, err
	}
	return &Base{program: clause.NewProgram(clauses)}, nil
}

// Ask begins a question (P6), by walking or by the machine (P14).
func (b *Base) Ask(s string, machine bool) (*Query, error) {
	question, err := syntax.Question(s)
	if err != nil {
		return nil, err
	}
	if !machine {
		return &Query{engine: walk.New(b.clauses(), question)}, nil
	}
	text, err := compile.Code(b.clauses(), question)
	if err != nil {
		return nil, err
	}
	return begin(text, question.Names())
}

// clauses are none of a Base that Load did not make: no call may panic.
func (b *Base) clauses() clause.Program {
	if b == nil {
		return nil
	}
	return b.program
}

// Code tells the code of a question to a program (P14).
func (b *Base) Code(s string) (string, error) {
	question, err := syntax.Question(s)
	if err != nil {
		return "", err
	}
	return compile.Code(b.clauses(), question)
}

// Run begins a code's question (P13).
func Run(code string) (*Query, error) { return begin(code, nil) }

// begin begins a code's question, with names for what it tells.
func begin(code string, names []string) (*Query, error) {
	begun, err := machine.Load(code, names)
	if err != nil {
		return nil, err
	}
	return &Query{engine: begun}, nil
}

// Next tells the next answer, or what ended the query (P6).
func (q *Query) Next() (string, error) {
	switch {
	case q == nil || *q == Query{}: // no call made it, so it has no answer
		return "", api.ErrNone
	case q.ended != nil:
		return "", q.ended
	}
	answer, err := store.Caught(q.engine.Answer)
	if err != nil {
		*q = Query{ended: err}
	}
	return answer, err
}
