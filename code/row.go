package code

import (
	"slices"

	"horn/api"
	"horn/term"
)

// newMake sorts a row of slots out once: it may be long, and be gone through often.
func newMake(slot int, name string, row []int) Make {
	made := Make{Slot: slot, Name: name, Slots: row}
	slots, last := eachOnce(row)
	if len(slots) == len(row) {
		return made
	}
	var numbers [api.MaxSlots]int
	for number, at := range last {
		numbers[row[at]] = number
	}
	made.Slots = slots
	for _, slot := range row {
		made.Order = append(made.Order, numbers[slot])
	}
	return made
}

// newSplit sorts a row of slots out, as newMake does.
func newSplit(slot int, name string, row []int) Split {
	slots, last := eachOnce(row)
	made := Split{Slot: slot, Name: name, Arity: len(row), Slots: slots, Last: last}
	if len(slots) < len(row) {
		made.Order = slices.Repeat([]int{term.Unmet}, len(row))
	}
	return made
}

// eachOnce finds the slots of a row, in the order in which they first stand there, and the place at which each stands last.
func eachOnce(row []int) (slots, last []int) {
	var numbers [api.MaxSlots]int // from 1; 0: of a slot that was not met yet
	for place, slot := range row {
		if numbers[slot] == 0 {
			slots = append(slots, slot)
			last = append(last, place)
			numbers[slot] = len(slots)
		}
		last[numbers[slot]-1] = place
	}
	return slots, last
}
