package compile

import "horn/clause"

// own stands for the height ahead of the call, which no slot has: mark tells it anew.
const own = -1

// around is what a goal has to know of what it stands in.
type around struct {
	height int    // the slot with the height to which its cut cuts, or own
	leave  func() // makes what is done behind it; nil: it is what stands there
}

// goal makes the lines of a goal (P7).
func (b *block) goal(goal clause.Goal, in around) {
	switch x := goal.(type) {
	case clause.All:
		b.row(x, in)
		return
	case clause.Either:
		b.either(x, in)
		return
	case clause.Choice:
		b.choice(x, in)
		return
	case clause.Not:
		b.not(x)
	case clause.Cut:
		b.cut(in.height)
	case clause.Call:
		b.call(x)
	}
	in.end()
}

func (in around) end() {
	if in.leave != nil {
		in.leave()
	}
}

func (b *block) row(goals clause.All, in around) {
	if len(goals) == 0 {
		in.end()
		return
	}
	last := len(goals) - 1
	for _, goal := range goals[:last] {
		b.goal(goal, around{height: in.height})
	}
	b.goal(goals[last], in)
}

func (b *block) either(goal clause.Either, in around) {
	to, here := b.later()
	b.leap("try", to)
	b.branches(goal.First, goal.Second, here, in)
}

// choice has its height in a slot as long as it is not cut to: behind that nothing goes back to where it is read.
func (b *block) choice(goal clause.Choice, in around) {
	to, here := b.later()
	b.once(goal.If, to)
	b.branches(goal.Then, goal.Else, here, in)
}

func (b *block) not(goal clause.Not) {
	to, here := b.later()
	b.once(goal.Goal, to)
	b.add("test fail")
	here()
}

// once makes the lines of a goal with a height of its own, to which the stack is cut behind it, and a place to come back to if it fails.
func (b *block) once(goal clause.Goal, otherwise place) {
	height := b.take()
	b.add("level", height)
	b.leap("try", otherwise)
	b.goal(goal, around{height: height})
	b.add("cut", height)
	b.free = height
}

// branches makes the lines of two goals, of which only one is done; between is called ahead of the second.
func (b *block) branches(first, second clause.Goal, between func(), in around) {
	leave, here := in.leave, func() {}
	if leave == nil {
		var to place
		to, here = b.later()
		leave = func() { b.leap("jump", to) }
	}
	b.goal(first, around{in.height, leave})
	between()
	b.goal(second, in)
	here()
}

func (b *block) cut(height int) {
	if height == own {
		height = b.take()
		b.add("mark", height)
		b.free = height
	}
	b.add("cut", height)
}

// call makes the lines of a goal by its name.
func (b *block) call(goal clause.Call) {
	free, from := b.free, len(b.lines)
	word := "call "
	if _, known := clause.Arity(goal.Name); known {
		word = "test "
	}
	b.add(word+goal.Name, b.buildAll(goal.Args)...)
	b.free = free
	b.longest = max(b.longest, len(b.lines)-from)
}
