package compile

import (
	"strconv"
	"strings"

	"horn/api"
	"horn/clause"
	"horn/term"
)

// mostLines is how many a goal may have. Walking counts it as one, and the machine may count a hundred times as much (P14): the rest is for what stands around it.
const mostLines = 75

// block is the lines of a clause, or of the query, while they are made. A slot that is free is taken again; as none has anything once it is free that is still to be read, it does no harm that going back leaves slots as they are.
type block struct {
	lines   []line
	slots   []int  // of each variable
	met     []bool // whether a variable's slot has it by now
	free    int    // the first slot that is
	most    int    // so many slots are needed
	longest int    // so many lines has the goal that has the most
}

// line is a line of a code.
type line struct {
	text string
	to   place // nil, if it does not leap
}

// place tells where a leap leads to. It can do so only when all that is leapt over is there.
type place func() int

// newBlock makes the lines of a head and a body, with so many variables in both, and a word at the end.
func newBlock(head []term.Term, body clause.Goal, vars int, end string) *block {
	b := &block{slots: make([]int, vars), met: make([]bool, vars)}
	b.head(head)
	b.others()
	b.goal(body, around{height: own, leave: func() { b.add(end) }})
	return b
}

// fits tells whether the machine has so many slots, and is done with each goal soon enough.
func (b *block) fits() bool { return b.most <= api.MaxSlots && b.longest <= mostLines }

func (b *block) text() string {
	var out strings.Builder
	for _, l := range b.lines {
		out.WriteString(l.text)
		if l.to != nil {
			out.WriteString(" " + strconv.Itoa(l.to()))
		}
		out.WriteByte('\n')
	}
	return out.String()
}

// add adds a line of words with slots behind them.
func (b *block) add(words string, slots ...int) {
	for _, slot := range slots {
		words += " " + strconv.Itoa(slot)
	}
	b.lines = append(b.lines, line{text: words})
}

// leap adds a line that leaps.
func (b *block) leap(word string, to place) {
	b.lines = append(b.lines, line{word, to})
}

// later is a place further on: here has to be called when it is come to.
func (b *block) later() (to place, here func()) {
	at := 0
	return func() int { return at }, func() { at = len(b.lines) }
}

// take takes a free slot.
func (b *block) take() int {
	slot := b.free
	b.free++
	b.most = max(b.most, b.free)
	return slot
}
