package code

import (
	"strconv"
	"strings"

	"horn/api"
	"horn/clause"
	"horn/term"
)

// What a code can write: the last place, how many signs of a name, how many arguments of a predicate.
const (
	maxPlace = 9999
	maxName  = 10
	maxArity = api.MaxSlots - 1
)

// words is what is left of a line. All its faults are told by its number alone, so one is only noted, and what was asked for is some other of its kind.
type words struct {
	left  []string
	slots int // how many there are where the line stands
	bad   bool
}

func (w *words) next() string {
	if len(w.left) == 0 {
		w.bad = true
		return ""
	}
	first := w.left[0]
	w.left = w.left[1:]
	return first
}

func (w *words) number(most int) int {
	word := w.next()
	n, err := strconv.Atoi(word)
	if err != nil || n < 0 || n > most || strconv.Itoa(n) != word {
		w.bad = true
		return 0
	}
	return n
}

func (w *words) slot() int { return w.number(w.slots - 1) }

func (w *words) place() int { return w.number(maxPlace) }

// row is the slots up to the line's end.
func (w *words) row() []int {
	var slots []int
	for len(w.left) > 0 {
		slots = append(slots, w.slot())
	}
	return slots
}

// someRow is a row with at least one slot.
func (w *words) someRow() []int {
	slots := w.row()
	if len(slots) == 0 {
		w.bad = true
	}
	return slots
}

// name is a copy: it is kept longer than the text.
func (w *words) name() string {
	word := w.next()
	if !isName(word) {
		w.bad = true
	}
	return strings.Clone(word)
}

func (w *words) constant() term.Term {
	word := w.next()
	if n, err := strconv.ParseInt(word, 10, 64); err == nil && strconv.FormatInt(n, 10) == word {
		return term.Number(n)
	}
	if !isName(word) {
		w.bad = true
	}
	return term.Atom(strings.Clone(word))
}

// test reads a goal of the language, with as many slots as it has arguments.
func (w *words) test() Test {
	test := Test{Name: w.name(), Slots: w.row()}
	if arity, known := clause.Arity(test.Name); !known || arity != len(test.Slots) {
		w.bad = true
	}
	return test
}

func (w *words) call() Call {
	name, slots := w.name(), w.row()
	return Call{Predicate: clause.Predicate{Name: name, Arity: len(slots)}, Slots: slots}
}

func (w *words) predicate() clause.Predicate {
	return clause.Predicate{Name: w.name(), Arity: w.number(maxArity)}
}

// isName tells whether a word is a name, and so no number, whether well or badly written.
func isName(word string) bool {
	if word == "" || len(word) > maxName || '0' <= word[0] && word[0] <= '9' || word[0] == '-' && word != "-" {
		return false
	}
	for _, sign := range []byte(word) {
		if sign < '!' || sign > '~' {
			return false
		}
	}
	return true
}
