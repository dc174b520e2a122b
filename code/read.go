package code

import (
	"strings"

	"horn/api"
	"horn/clause"
)

// Read reads a code's text. Its fault is the first line that is none, or may not stand where it stands.
func Read(text string) (*Code, error) {
	if len(text) > api.MaxCode {
		return nil, &api.At{Err: api.ErrLong, Place: 0}
	}
	r := newReader()
	number := 1
	for text != "" {
		line, behind, ended := strings.Cut(text, "\n")
		if !ended || !r.line(line) {
			return nil, faultAt(number)
		}
		text = behind
		number++
	}
	if r.code.Query == nil {
		return nil, faultAt(number)
	}
	return r.code, nil
}

func faultAt(line int) error { return &api.At{Err: api.ErrCode, Place: line} }

// reader goes through a code's lines.
type reader struct {
	code         *Code
	instructions map[string]func(*words) Instruction
	predicate    *clause.Predicate // whose clauses may stand here; nil: none
	block        *Block            // whose instructions may stand here; nil: none
}

func newReader() *reader {
	return &reader{
		code:         &Code{Predicates: map[clause.Predicate][]*Block{}},
		instructions: instructions(),
	}
}

// instructions is a table of how an instruction is read, behind its own word.
func instructions() map[string]func(*words) Instruction {
	return map[string]func(*words) Instruction{
		"new":   func(w *words) Instruction { return New{Slot: w.slot()} },
		"put":   func(w *words) Instruction { return Put{Slot: w.slot(), Constant: w.constant()} },
		"const": func(w *words) Instruction { return Const{Slot: w.slot(), Constant: w.constant()} },
		"same":  func(w *words) Instruction { return Same{Left: w.slot(), Right: w.slot()} },
		"make":  func(w *words) Instruction { return newMake(w.slot(), w.name(), w.someRow()) },
		"split": func(w *words) Instruction { return newSplit(w.slot(), w.name(), w.someRow()) },
		"test":  func(w *words) Instruction { return w.test() },
		"mark":  func(w *words) Instruction { return Mark{Slot: w.slot()} },
		"level": func(w *words) Instruction { return Level{Slot: w.slot()} },
		"cut":   func(w *words) Instruction { return Cut{Slot: w.slot()} },
		"try":   func(w *words) Instruction { return Try{Place: w.place()} },
		"jump":  func(w *words) Instruction { return Jump{Place: w.place()} },
		"call":  func(w *words) Instruction { return w.call() },
		"ret":   func(w *words) Instruction { return Ret{} },
		"done":  func(w *words) Instruction { return Done{} },
	}
}

// line reads a line, and tells whether it is one and may stand here.
func (r *reader) line(text string) bool {
	w := &words{left: strings.Split(text, " ")}
	stands := false
	switch first := w.next(); first {
	case "pred":
		stands = r.pred(w)
	case "clause":
		stands = r.clause(w)
	case "query":
		stands = r.query(w)
	default:
		stands = r.instruction(first, w)
	}
	return stands && !w.bad && len(w.left) == 0
}

func (r *reader) pred(w *words) bool {
	p := w.predicate()
	_, twice := r.code.Predicates[p]
	if twice || r.code.Query != nil {
		return false
	}
	r.code.Predicates[p] = nil
	r.predicate, r.block = &p, nil
	return true
}

func (r *reader) clause(w *words) bool {
	if r.predicate == nil {
		return false
	}
	r.block = &Block{Slots: w.number(api.MaxSlots)}
	r.code.Predicates[*r.predicate] = append(r.code.Predicates[*r.predicate], r.block)
	return true
}

func (r *reader) query(w *words) bool {
	if r.code.Query != nil {
		return false
	}
	r.block = &Block{Slots: w.number(api.MaxSlots)}
	r.code.Query, r.code.Told = r.block, w.number(r.block.Slots)
	r.predicate = nil
	return true
}

func (r *reader) instruction(name string, w *words) bool {
	read, known := r.instructions[name]
	if !known || r.block == nil {
		return false
	}
	w.slots = r.block.Slots
	r.block.Instructions = append(r.block.Instructions, read(w))
	return true
}
