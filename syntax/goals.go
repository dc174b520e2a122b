package syntax

import (
	"horn/api"
	"horn/clause"
	"horn/term"
)

func (r *reader) body() clause.Goal {
	first := r.goals()
	if r.takes(";") {
		return clause.Either{First: first, Second: r.otherwise()}
	}
	if !r.takes("->") {
		return first
	}
	choice := clause.Choice{If: first, Then: r.goals(), Else: clause.Call{Name: "fail"}}
	if r.takes(";") {
		choice.Else = r.otherwise()
	}
	return choice
}

// otherwise reads the body behind a `;`.
func (r *reader) otherwise() clause.Goal {
	defer r.down()()
	return r.body()
}

func (r *reader) goals() clause.Goal {
	var all clause.All
again:
	all = append(all, r.goal())
	if r.takes(",") {
		goto again
	}
	if len(all) == 1 {
		return all[0]
	}
	return all
}

func (r *reader) goal() clause.Goal {
	defer r.down()()
	switch {
	case r.takes("!"):
		return clause.Cut{}
	case r.takes("\\+"):
		return clause.Not{Goal: r.goal()}
	case r.takes("("):
		inner := r.body()
		r.must(")")
		return inner
	}
	return r.plainGoal()
}

// plainGoal reads two terms with a sign between, or a term that is a goal by itself.
func (r *reader) plainGoal() clause.Goal {
	place := r.now().place
	left := r.term()
	if t := r.now(); clause.IsSign(t.text) || t.text == "is" {
		r.take()
		return clause.Call{Name: t.text, Args: []term.Term{left, r.term()}}
	}
	call, ok := asCall(left)
	if !ok {
		panic(newFault(api.ErrSyntax, place))
	}
	if arity, known := clause.Arity(call.Name); known && arity != len(call.Args) {
		panic(newFault(api.ErrName, place))
	}
	return call
}

// asCall takes a name, or a name with arguments, as a goal; a list or an operation has a name too, but is none.
func asCall(t term.Term) (call clause.Call, ok bool) {
	switch x := t.(type) {
	case term.Atom:
		return clause.Call{Name: string(x)}, x != term.Empty
	case *term.Compound:
		return clause.Call{Name: x.Name, Args: x.Args}, !x.IsCell() && !term.IsOperation(x)
	}
	return clause.Call{}, false
}

func (r *reader) program() []clause.Clause {
	var clauses []clause.Clause
	for r.now().kind != end {
		if len(clauses) == api.MaxClauses {
			panic(newFault(api.ErrLimit, r.now().place))
		}
		clauses = append(clauses, r.clause())
	}
	return clauses
}

func (r *reader) clause() clause.Clause {
	r.vars = nil
	read := clause.Clause{Head: r.head(), Body: clause.All{}}
	if r.takes(":-") {
		read.Body = r.body()
	}
	r.must(point)
	read.Vars = r.vars
	return read
}

// head reads a name that a program may define, with its arguments. It is neither a prim nor a goal, so it makes nothing deeper.
func (r *reader) head() clause.Call {
	first := r.now()
	if first.kind != name {
		panic(r.misplaced())
	}
	call, _ := asCall(r.named())
	if _, known := clause.Arity(call.Name); known || call.Name == "mod" {
		panic(newFault(api.ErrName, first.place))
	}
	return call
}

func (r *reader) question() *clause.Question {
	body := r.body()
	r.must(point)
	return &clause.Question{Body: body, Vars: r.vars}
}
