// Package horn: programs of clauses, and questions: see DOC.md.
package horn

import (
	"horn/clause"
	"horn/syntax"
	"horn/term"
)

// Base is a program.
type Base struct {
	clauses []clause.Clause
}

// Query is a question under way.
type Query struct{}

// Read tells a term's one form (P4).
func Read(s string) (string, error) {
	t, err := syntax.Term(s)
	if err != nil {
		return "", err
	}
	return term.Form(t), nil
}

// Load reads a program (P5).
func Load(s string) (*Base, error) {
	clauses, err := syntax.Program(s)
	if err != nil {
		return nil, err
	}
	return &Base{clauses: clauses}, nil
}

// Ask begins a question (P6, P14). For now it only tells the question's fault.
func (b *Base) Ask(s string, machine bool) (*Query, error) {
	_, err := syntax.Question(s)
	return nil, err
}

// Code tells the code of a question to a program (P14). For now it only tells the question's fault.
func (b *Base) Code(s string) (string, error) {
	_, err := syntax.Question(s)
	return "", err
}

// Run begins a code's question (P13).
func Run(code string) (*Query, error) { return nil, nil }

// Next tells the next answer (P6).
func (q *Query) Next() (string, error) { return "", nil }
