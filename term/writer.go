package term

import (
	"strconv"
	"strings"
)

// Writer writes terms in their one form. It numbers variables in the order in which they come in all that it writes.
type Writer struct {
	out     strings.Builder
	numbers map[*Var]int
	count   func(depth int)
	depth   int
}

// NewWriter is a writer that has met no variable yet. It calls count ahead of each term, with how deep it stands, which may end it by a panic.
func NewWriter(count func(depth int)) *Writer {
	return &Writer{numbers: map[*Var]int{}, count: count}
}

// Form tells the one form of a term by itself.
func Form(t Term) string {
	w := NewWriter(func(int) {})
	w.Term(t)
	return w.Text()
}

// Text tells all that was written.
func (w *Writer) Text() string { return w.out.String() }

// Answer writes an answer: terms with their names, but none whose name begins with `_`. One without a name stands by itself.
func (w *Writer) Answer(names []string, terms []Term) string {
	between := ""
	for i, name := range names {
		if strings.HasPrefix(name, "_") {
			continue
		}
		w.out.WriteString(between)
		if name != "" {
			w.out.WriteString(name + " = ")
		}
		w.Term(terms[i])
		between = ", "
	}
	if between == "" {
		return "true"
	}
	return w.Text()
}

// Term writes a term.
func (w *Writer) Term(t Term) {
	w.count(w.depth)
	w.depth++
	switch x := Resolve(t).(type) {
	case Atom:
		w.out.WriteString(string(x))
	case Number:
		w.out.WriteString(strconv.FormatInt(int64(x), 10))
	case *Var:
		w.out.WriteString("_" + strconv.Itoa(w.number(x)))
	case *Compound:
		w.compound(x)
	}
	w.depth--
}

func (w *Writer) number(v *Var) int {
	n, met := w.numbers[v]
	if !met {
		n = len(w.numbers) + 1
		w.numbers[v] = n
	}
	return n
}

func (w *Writer) compound(c *Compound) {
	switch {
	case c.IsCell():
		w.list(c)
	case IsOperation(c):
		w.operation(c)
	default:
		w.out.WriteString(c.Name)
		w.args(c)
	}
}

func (w *Writer) args(c *Compound) {
	between := "("
	for place := range c.Arity() {
		w.out.WriteString(between)
		w.Term(c.Arg(place))
		between = ","
	}
	w.out.WriteByte(')')
}

// list writes a list as far as it goes, and its rest. It writes each element as it comes to it: lists within lists may share so much that there is no room for all the elements of all of them at once.
func (w *Writer) list(c *Compound) {
	between := "["
	var rest Term = c
	for {
		cell, ok := rest.(*Compound)
		if !ok || !cell.IsCell() {
			break
		}
		w.out.WriteString(between)
		w.Term(cell.Arg(0))
		between = ","
		rest = Resolve(cell.Arg(1))
	}
	if rest != Empty {
		w.out.WriteByte('|')
		w.Term(rest)
	}
	w.out.WriteByte(']')
}

// operation leaves out the brackets that reading from the left puts back by itself.
func (w *Writer) operation(c *Compound) {
	left, right := Resolve(c.Arg(0)), Resolve(c.Arg(1))
	w.operand(left, left.Strength() < c.Strength())
	if c.Name == "mod" {
		w.out.WriteString(" mod ")
	} else {
		w.out.WriteString(c.Name)
	}
	w.operand(right, right.Strength() <= c.Strength())
}

func (w *Writer) operand(t Term, brackets bool) {
	if !brackets {
		w.Term(t)
		return
	}
	w.out.WriteByte('(')
	w.Term(t)
	w.out.WriteByte(')')
}
