// Package machine: questions answered by doing a code's instructions (P12, P13).
package machine

import (
	"horn/api"
	"horn/code"
	"horn/store"
	"horn/term"
)

// Machine is a code's query under way.
type Machine struct {
	store.Search[place]
	budget
	code  *code.Code
	names []string // what an answer tells the query's first slots by
	query *frame
	frame *frame // the one it is in
	next  int    // the instruction of it that is to be done
	begun bool
}

// place is where the machine comes back to: an instruction of a frame, ahead of which clauses may be left to try.
type place struct {
	frame   *frame
	next    int
	clauses []*code.Block
	args    []any
}

// New begins a code's query. Its answers tell slots by their names, or by themselves, if there are no names.
func New(read *code.Code, names []string) *Machine {
	if names == nil {
		names = make([]string, read.Told)
	}
	query := newFrame(read.Query, nil)
	return &Machine{
		Search: store.NewSearch[place](most),
		budget: newBudget(read),
		code:   read,
		names:  names,
		query:  query,
		frame:  query,
	}
}

// Load begins the query of a code's text, as New does.
func Load(text string, names []string) (*Machine, error) {
	read, err := code.Read(text)
	if err != nil {
		return nil, err
	}
	return New(read, names), nil
}

// Answer looks for the next answer, and tells it. If there is none, it ends the query (store.End).
func (m *Machine) Answer() string {
	if m.begun {
		m.back()
	}
	m.begun = true
	for {
		now := m.fetch()
		if _, ok := now.(code.Done); ok {
			return m.answer()
		}
		if !m.do(now) {
			m.back()
		}
	}
}

// fetch takes the next instruction.
func (m *Machine) fetch() code.Instruction {
	if m.next >= len(m.frame.instructions) {
		store.End(api.ErrCode)
	}
	m.Count()
	m.step()
	now := m.frame.instructions[m.next]
	m.next++
	return now
}

// do does an instruction, and tells whether it held.
func (m *Machine) do(now code.Instruction) bool {
	f := m.frame
	switch x := now.(type) {
	case code.New:
		m.take(variable)
		f.slots[x.Slot] = &term.Var{}
	case code.Put:
		f.slots[x.Slot] = x.Constant
	case code.Const:
		return m.Same(f.term(x.Slot), x.Constant)
	case code.Same:
		return m.Same(f.term(x.Left), f.term(x.Right))
	case code.Make:
		m.take(thing + len(x.Slots))
		f.slots[x.Slot] = &term.Compound{Name: x.Name, Args: f.terms(x.Slots), Order: x.Order}
	case code.Split:
		return m.split(x)
	case code.Test:
		return m.Test(x.Name, f.terms(x.Slots))
	case code.Mark:
		f.slots[x.Slot] = f.height
	case code.Level:
		f.slots[x.Slot] = height(m.Height())
	case code.Cut:
		m.Cut(f.heightIn(x.Slot))
	case code.Try:
		m.Put(place{frame: f, next: x.Place})
	case code.Jump:
		m.next = x.Place
	case code.Call:
		return m.call(x)
	case code.Ret:
		m.ret()
	}
	return true
}

// split takes a name with arguments apart, which a variable without a value becomes first.
func (m *Machine) split(x code.Split) bool {
	whole := term.Resolve(m.frame.term(x.Slot))
	if v, ok := whole.(*term.Var); ok {
		m.take(thing + len(x.Slots)*(1+variable))
		whole = newCompound(x)
		m.Bind(v, whole)
	}
	c, ok := whole.(*term.Compound)
	if !ok || c.Name != x.Name || c.Arity() != x.Arity {
		return false
	}
	for i, slot := range x.Slots {
		m.frame.slots[slot] = c.Arg(x.Last[i])
	}
	return true
}

// newCompound is a name with new variables.
func newCompound(x code.Split) *term.Compound {
	made := &term.Compound{Name: x.Name, Order: x.Order}
	if x.Order == nil {
		for range x.Arity {
			made.Args = append(made.Args, &term.Var{})
		}
	}
	return made
}

func (m *Machine) call(x code.Call) bool {
	clauses, known := m.code.Predicates[x.Predicate]
	if !known {
		store.End(api.ErrProc)
	}
	if len(clauses) == 0 {
		return false
	}
	m.take(len(x.Slots))
	m.enter(clauses, m.frame.things(x.Slots))
	return true
}

// enter goes on in a frame of the first of some clauses, with a place for the others.
func (m *Machine) enter(clauses []*code.Block, args []any) {
	f := newFrame(clauses[0], args)
	m.take(thing + len(f.slots))
	f.behind, f.next = m.behind()
	f.height = height(m.Height())
	if len(clauses) > 1 {
		m.Put(place{m.frame, m.next, clauses[1:], args})
	}
	m.frame, m.next = f, 0
}

// behind tells where a call goes on behind its end. If all that is left here is to ret, that is where this frame goes on behind its own: walking does nothing at a clause's end, so that the machine must not do as much as there are calls within calls. (The query has nothing behind it, so that its ret ends it either way.)
func (m *Machine) behind() (*frame, int) {
	f := m.frame
	if m.next < len(f.instructions) {
		if _, ok := f.instructions[m.next].(code.Ret); ok {
			return f.behind, f.next
		}
	}
	return f, m.next
}

// ret goes on in the frame behind; the query has none.
func (m *Machine) ret() {
	if m.frame.behind == nil {
		store.End(api.ErrCode)
	}
	m.frame, m.next = m.frame.behind, m.frame.next
}

// back goes back to the place that was put last.
func (m *Machine) back() {
	last := m.Back()
	m.frame, m.next = last.frame, last.next
	if len(last.clauses) > 0 {
		m.enter(last.clauses, last.args)
	}
}

// answer writes what the first slots of the query have (P13).
func (m *Machine) answer() string {
	if m.frame != m.query {
		store.End(api.ErrCode)
	}
	told := make([]term.Term, m.code.Told)
	for slot := range told {
		told[slot] = m.query.term(slot)
	}
	return term.NewWriter(m.CountAt).Answer(m.names, told)
}
