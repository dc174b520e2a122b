// Package code: what the machine does, and the texts that say it (P11).
package code

import (
	"horn/clause"
	"horn/term"
)

// Code is predicates and a query.
type Code struct {
	Predicates map[clause.Predicate][]*Block // those without a clause, too
	Query      *Block
	Told       int // so many of the query's first slots are an answer
}

// Block is the instructions of a clause, or of the query, and how many slots they have.
type Block struct {
	Slots        int
	Instructions []Instruction
}

// Instruction is one of the types below, which are named by their words in a text.
type Instruction interface {
	isInstruction()
}

// step is what makes a type an instruction.
type step struct{}

func (step) isInstruction() {}

// New is a new variable.
type New struct {
	step
	Slot int
}

// Put is a constant for a slot.
type Put struct {
	step
	Slot     int
	Constant term.Term
}

// Const is a constant that a slot is made the same as.
type Const struct {
	step
	Slot     int
	Constant term.Term
}

// Same is two slots that are made the same.
type Same struct {
	step
	Left, Right int
}

// Make is a name with arguments for a slot.
type Make struct {
	step
	Slot  int
	Name  string
	Slots []int // of the arguments, each once
	Order []int // which of Slots is the argument at each place; nil: none stands there twice
}

// Split is a name with arguments that a slot is, or becomes.
type Split struct {
	step
	Slot  int
	Name  string
	Arity int
	Slots []int // for the arguments, each once
	Last  []int // at which place each of Slots stands last
	Order []int // of the new variables, if a slot stands there twice: Unmet, all of them
}

// Test is a goal of the language.
type Test struct {
	step
	Name  string
	Slots []int
}

// Mark is the stack's height ahead of the call, for a slot.
type Mark struct {
	step
	Slot int
}

// Level is the stack's height, for a slot.
type Level struct {
	step
	Slot int
}

// Cut is a slot with the height to which the stack is cut.
type Cut struct {
	step
	Slot int
}

// Try is an instruction to come back to.
type Try struct {
	step
	Place int
}

// Jump is an instruction to go on at.
type Jump struct {
	step
	Place int
}

// Call is a predicate to go through.
type Call struct {
	step
	Predicate clause.Predicate
	Slots     []int
}

// Ret is a clause's end.
type Ret struct {
	step
}

// Done is an answer.
type Done struct {
	step
}
