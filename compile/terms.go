package compile

import (
	"strconv"

	"horn/term"
)

// head makes the lines of a head: its arguments are in the first slots, and are made the same one by one. A variable that is an argument by itself is there already.
func (b *block) head(args []term.Term) {
	for range args {
		b.take()
	}
	for i, arg := range args {
		if v, ok := arg.(*term.Var); ok && !b.met[v.Index] {
			b.met[v.Index], b.slots[v.Index] = true, i
		}
	}
	for i, met := range b.met {
		if !met {
			b.slots[i] = b.take()
		}
	}
	for i, arg := range args {
		b.match(i, arg)
	}
}

// others makes the lines of the variables that the head has not.
func (b *block) others() {
	for i, met := range b.met {
		if !met {
			b.add("new", b.slots[i])
			b.met[i] = true
		}
	}
}

// match makes what a slot has the same as a term of the head.
func (b *block) match(slot int, t term.Term) {
	switch x := t.(type) {
	case *term.Var:
		if b.slots[x.Index] != slot {
			b.add("same", slot, b.slots[x.Index])
		}
	case *term.Compound:
		b.split(slot, x)
	default:
		b.add("const " + strconv.Itoa(slot) + " " + term.Form(x))
	}
}

// split takes what a slot has apart, as a name with arguments of the head. The last argument may take the others' slots, and its own: they are read by then.
func (b *block) split(slot int, c *term.Compound) {
	free := b.free
	parts := make([]int, len(c.Args))
	for i, arg := range c.Args {
		parts[i] = b.part(arg)
	}
	b.add("split "+strconv.Itoa(slot)+" "+c.Name, parts...)
	for i, arg := range c.Args {
		if i == len(c.Args)-1 {
			b.free = free
		}
		b.match(parts[i], arg)
	}
}

// part is a slot for an argument that is taken out: its own, if it is a variable that is met here.
func (b *block) part(arg term.Term) int {
	if v, ok := arg.(*term.Var); ok && !b.met[v.Index] {
		b.met[v.Index] = true
		return b.slots[v.Index]
	}
	return b.take()
}

// build makes a term of a goal, and tells which slot has it.
func (b *block) build(t term.Term) int {
	free := b.free
	switch x := t.(type) {
	case *term.Var:
		return b.slots[x.Index]
	case *term.Compound:
		parts := b.buildAll(x.Args)
		b.free = free
		slot := b.take()
		b.add("make "+strconv.Itoa(slot)+" "+x.Name, parts...)
		return slot
	}
	slot := b.take()
	b.add("put " + strconv.Itoa(slot) + " " + term.Form(t))
	return slot
}

// buildAll makes terms, the last one first: then a list takes no more slots the longer it is.
func (b *block) buildAll(terms []term.Term) []int {
	slots := make([]int, len(terms))
	for i := len(terms) - 1; i >= 0; i-- {
		slots[i] = b.build(terms[i])
	}
	return slots
}
