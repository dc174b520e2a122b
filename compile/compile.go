// Package compile: code for programs and questions (P14).
package compile

import (
	"cmp"
	"slices"
	"strconv"
	"strings"

	"horn/api"
	"horn/clause"
)

// Code makes the text of a code for a program and a question, which tells all the question's variables. api.ErrLimit: the machine could not do it, or not soon enough; never so with fifty terms or less.
func Code(program clause.Program, question *clause.Question) (string, error) {
	var out strings.Builder
	fits := true
	write := func(head string, b *block) {
		fits = fits && b.fits()
		out.WriteString(head + "\n" + b.text())
	}
	for _, p := range sorted(program) {
		out.WriteString("pred " + p.Name + " " + strconv.Itoa(p.Arity) + "\n")
		for _, c := range program[p] {
			b := clauseBlock(c)
			write("clause "+strconv.Itoa(b.most), b)
		}
	}
	b := questionBlock(question)
	write("query "+strconv.Itoa(b.most)+" "+strconv.Itoa(len(question.Vars)), b)
	if !fits {
		return "", api.ErrLimit
	}
	return out.String(), nil
}

// sorted is the program's predicates in an order that hangs on nothing but them.
func sorted(program clause.Program) []clause.Predicate {
	var all []clause.Predicate
	for p := range program {
		all = append(all, p)
	}
	slices.SortFunc(all, func(a, b clause.Predicate) int {
		return cmp.Or(cmp.Compare(a.Name, b.Name), cmp.Compare(a.Arity, b.Arity))
	})
	return all
}

func clauseBlock(c clause.Clause) *block {
	return newBlock(c.Head.Args, c.Body, len(c.Vars), "ret")
}

// questionBlock has no head, so that the variables are in the first slots, in their order, where they are told.
func questionBlock(q *clause.Question) *block {
	return newBlock(nil, q.Body, len(q.Vars), "done")
}
