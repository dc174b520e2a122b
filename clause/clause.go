// Package clause: what programs and questions are made of.
package clause

import "horn/term"

// Goal is one of Cut, Not, All, Either, Choice and Call.
type Goal interface {
	isGoal()
}

// Cut is `!`.
type Cut struct{}

// Not is `\+ G`.
type Not struct {
	Goal Goal
}

// All is goals, one after the other; there may be none.
type All []Goal

// Either is `A ; B`.
type Either struct {
	First, Second Goal
}

// Choice is `C -> A ; B`.
type Choice struct {
	If, Then, Else Goal
}

// Call is a goal by its name: of the language, or of the program.
type Call struct {
	Name string
	Args []term.Term
}

func (Cut) isGoal()    {}
func (Not) isGoal()    {}
func (All) isGoal()    {}
func (Either) isGoal() {}
func (Choice) isGoal() {}
func (Call) isGoal()   {}

// Clause is a head and what is to be done for it, with the variables of both.
type Clause struct {
	Head Call
	Body Goal
	Vars []*term.Var
}

// Question is a body, with its variables in the order in which they stand there.
type Question struct {
	Body Goal
	Vars []*term.Var
}

// Names are those of the question's variables.
func (q *Question) Names() []string {
	names := make([]string, len(q.Vars))
	for i, v := range q.Vars {
		names[i] = v.Name
	}
	return names
}

// Arity tells how many arguments the language's goal of that name has, and whether there is one.
func Arity(name string) (int, bool) {
	switch name {
	case "true", "fail":
		return 0, true
	case "var", "nonvar", "atom", "integer":
		return 1, true
	case "is":
		return 2, true
	}
	return 2, IsSign(name)
}

// IsSign tells whether the language's goal of that name is a sign, which stands only between two terms.
func IsSign(name string) bool {
	switch name {
	case "=", "\\=", "==", "<", ">", "=<", ">=", "=:=":
		return true
	}
	return false
}
