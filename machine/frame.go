package machine

import (
	"horn/api"
	"horn/code"
	"horn/store"
	"horn/term"
)

// frame is a clause, or the query, under way. Going back to a place does not undo what its slots have.
type frame struct {
	instructions []code.Instruction
	slots        []any  // of each nil, a term.Term or a height
	behind       *frame // where it goes on behind its end; nil: this is the query
	next         int    // at which instruction it goes on there
	height       height // of the stack, ahead of the call
}

// height is of the stack of places.
type height int

func newFrame(block *code.Block, args []any) *frame {
	f := &frame{instructions: block.Instructions, slots: make([]any, max(block.Slots, len(args)))}
	copy(f.slots, args)
	return f
}

// term reads a term in a slot.
func (f *frame) term(slot int) term.Term {
	if t, ok := f.slots[slot].(term.Term); ok {
		return t
	}
	store.End(api.ErrCode)
	return nil
}

func (f *frame) terms(slots []int) []term.Term {
	terms := make([]term.Term, len(slots))
	for i, slot := range slots {
		terms[i] = f.term(slot)
	}
	return terms
}

// heightIn reads a height in a slot.
func (f *frame) heightIn(slot int) int {
	h, ok := f.slots[slot].(height)
	if !ok {
		store.End(api.ErrCode)
	}
	return int(h)
}

// things takes what slots have, whatever it is.
func (f *frame) things(slots []int) []any {
	things := make([]any, len(slots))
	for i, slot := range slots {
		things[i] = f.slots[slot]
	}
	return things
}
