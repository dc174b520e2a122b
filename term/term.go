// Package term: the terms that texts and answers are made of, and their one form.
package term

import "iter"

// Term is one of Atom, Number, *Var and *Compound.
type Term interface {
	// Strength tells how close the term's own sign binds its arguments.
	Strength() int
}

// Atom is a name by itself.
type Atom string

// Number is a number of 64 bits with a sign.
type Number int64

// Var is a variable: the same pointer is the same variable, whatever its name.
type Var struct {
	Name  string
	Index int  // among those of the text it was read in, in the order in which they stand there
	Value Term // nil, while it has none
	Held  int  // how many others have come to be it: those whose values lead to it
}

// Compound is a name with arguments: Arity tells how many, Arg which.
type Compound struct {
	Name  string
	Args  []Term
	Order []int       // which of Args stands at each place, or Unmet; nil: they stand there as they are
	met   map[int]int // which of Args stands at a place that was Unmet, once it is not
}

// A list is Empty, or Cell with its first element and the rest.
const (
	Empty Atom   = "[]"
	Cell  string = "."
)

// How close signs bind: what is no operation is never torn apart.
const (
	Sum = 1 + iota
	Product
	Whole
)

// Strength of an atom: it has no sign.
func (Atom) Strength() int { return Whole }

// Strength of a number: it has no sign.
func (Number) Strength() int { return Whole }

// Strength of a variable: it has no sign.
func (*Var) Strength() int { return Whole }

// Strength of a name with arguments: only an operation has a sign.
func (c *Compound) Strength() int {
	if c.Arity() != 2 {
		return Whole
	}
	return SignStrength(c.Name)
}

// Resolve tells what a term is by now: a variable that has a value is that value.
func Resolve(t Term) Term {
	for {
		v, ok := t.(*Var)
		if !ok || v.Value == nil {
			return t
		}
		t = v.Value
	}
}

// With makes a term that was read anew, with other variables in the place of its own.
func With(t Term, vars []Var) Term {
	switch x := t.(type) {
	case *Var:
		return &vars[x.Index]
	case *Compound:
		return &Compound{Name: x.Name, Args: AllWith(x.Args, vars)}
	}
	return t
}

// AllWith makes terms anew, one by one.
func AllWith(terms []Term, vars []Var) []Term {
	made := make([]Term, len(terms))
	for i, t := range terms {
		made[i] = With(t, vars)
	}
	return made
}

// SignStrength tells how close a name with two arguments binds them.
func SignStrength(name string) int {
	switch name {
	case "+", "-":
		return Sum
	case "*", "//", "mod":
		return Product
	}
	return Whole
}

// IsOperation tells whether a term is written with a sign between its arguments.
func IsOperation(t Term) bool { return t.Strength() < Whole }

// IsCell tells whether the name with arguments is a list that is not empty.
func (c *Compound) IsCell() bool { return c.Name == Cell && c.Arity() == 2 }

// List makes a list of elements with a rest behind them.
func List(elements []Term, rest Term) Term {
	for element := range fromBehind(elements) {
		rest = &Compound{Name: Cell, Args: []Term{element, rest}}
	}
	return rest
}

// fromBehind yields the elements, the last one first: a cell can only be made when its rest is there.
func fromBehind(elements []Term) iter.Seq[Term] {
	return func(yield func(Term) bool) {
		for i := len(elements) - 1; i >= 0; i-- {
			if !yield(elements[i]) {
				return
			}
		}
	}
}
