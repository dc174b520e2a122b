package syntax

import (
	"horn/api"
	"horn/term"
)

// reader goes through a text's tokens.
type reader struct {
	tokens []token
	next   int
	depth  int
	vars   []*term.Var // of the clause, question or term that is being read
}

func (r *reader) now() token { return r.tokens[r.next] }

// take goes on behind the token; the text's end is never left.
func (r *reader) take() token {
	t := r.now()
	if t.kind != end {
		r.next++
	}
	return t
}

func (r *reader) takes(text string) bool {
	if r.now().text != text {
		return false
	}
	r.take()
	return true
}

func (r *reader) must(text string) {
	if !r.takes(text) {
		panic(r.misplaced())
	}
}

// misplaced is the fault of the token that stands here and cannot.
func (r *reader) misplaced() fault { return newFault(api.ErrSyntax, r.now().place) }

// down goes one deeper, whatever token stands there; up has to be called where that ends.
func (r *reader) down() (up func()) {
	if r.depth == api.MaxDepth {
		panic(newFault(api.ErrLimit, r.now().place))
	}
	r.depth++
	return func() { r.depth-- }
}

func (r *reader) term() term.Term { return r.operations(term.Sum, r.product) }

func (r *reader) product() term.Term { return r.operations(term.Product, r.prim) }

// operations reads parts with signs of one strength between, from the left.
func (r *reader) operations(strength int, part func() term.Term) term.Term {
	whole := part()
again:
	if t := r.now(); term.SignStrength(t.text) == strength {
		r.take()
		whole = &term.Compound{Name: t.text, Args: []term.Term{whole, part()}}
		goto again
	}
	return whole
}

func (r *reader) prim() term.Term {
	defer r.down()()
	switch r.now().kind {
	case number:
		return r.number(1)
	case variable:
		return r.variable()
	case name:
		return r.named()
	}
	switch {
	case r.takes("-"):
		return r.number(-1)
	case r.takes("("):
		inner := r.term()
		r.must(")")
		return inner
	case r.takes("["):
		return r.list()
	}
	panic(r.misplaced())
}

func (r *reader) number(factor int64) term.Term {
	if r.now().kind != number {
		panic(r.misplaced())
	}
	value := int64(0)
	for _, digit := range []byte(r.take().text) {
		value = value*10 + int64(digit-'0')
	}
	return term.Number(factor * value)
}

// variable finds the one that stood there already; `_` never did.
func (r *reader) variable() term.Term {
	t := r.take()
	for _, v := range r.vars {
		if v.Name == t.text && t.text != "_" {
			return v
		}
	}
	if len(r.vars) == api.MaxVars {
		panic(newFault(api.ErrLimit, t.place))
	}
	v := &term.Var{Name: t.text, Index: len(r.vars)}
	r.vars = append(r.vars, v)
	return v
}

// named reads a name, with its arguments if there are any.
func (r *reader) named() term.Term {
	t := r.take()
	if !r.takes("(") {
		return term.Atom(t.text)
	}
	args := r.row()
	if len(args) > api.MaxArity {
		panic(newFault(api.ErrLimit, t.place))
	}
	r.must(")")
	return &term.Compound{Name: t.text, Args: args}
}

func (r *reader) row() []term.Term {
	var terms []term.Term
again:
	terms = append(terms, r.term())
	if r.takes(",") {
		goto again
	}
	return terms
}

// list reads on behind the bracket that opens a list.
func (r *reader) list() term.Term {
	if r.takes("]") {
		return term.Empty
	}
	elements := r.row()
	var rest term.Term = term.Empty
	if r.takes("|") {
		rest = r.term()
	}
	r.must("]")
	return term.List(elements, rest)
}
