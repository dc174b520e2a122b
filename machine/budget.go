package machine

import (
	"horn/api"
	"horn/code"
	"horn/store"
)

// times is how many times as much as walking the machine may count (P14); most is what that comes to.
const (
	times = 100
	most  = times * api.Fuel
)

// few is how many instructions there are, at the most, in a code that package compile makes, for what walking counts as one, beside those that only make terms.
const few = 10

// room is how many slots may be taken, of 16 bytes each: what P13 and P14 say must be told takes less, whatever it makes.
const room = 800 * api.Fuel

// How many slots a variable takes, and a frame or a name with arguments beside its own.
const (
	variable = 3
	thing    = 6
)

// budget is how many instructions may still be done, and how many slots taken.
type budget struct {
	steps, room int
}

// newBudget hangs on the code: only if it makes great terms must much be done, and a search that never ends is to be ended soon.
func newBudget(read *code.Code) budget {
	longest := longestRun(read.Query)
	for _, blocks := range read.Predicates {
		for _, block := range blocks {
			longest = max(longest, longestRun(block))
		}
	}
	return budget{steps: api.Fuel * min(few+longest, times), room: room}
}

// longestRun is how many instructions that only make terms stand one behind the other.
func longestRun(block *code.Block) int {
	longest, run := 0, 0
	for _, instruction := range block.Instructions {
		switch instruction.(type) {
		case code.New, code.Put, code.Make:
			run++
			longest = max(longest, run)
		default:
			run = 0
		}
	}
	return longest
}

func (b *budget) step() {
	if b.steps == 0 {
		store.End(api.ErrFuel)
	}
	b.steps--
}

func (b *budget) take(slots int) {
	b.room -= slots
	if b.room < 0 {
		store.End(api.ErrFuel)
	}
}
