package clause

import (
	"testing"

	"horn/term"
)

// TestNewProgram: P7: the clauses of a name and a number of arguments, in their order.
func TestNewProgram(t *testing.T) {
	head := func(name string, args ...term.Term) Clause { return Clause{Head: Call{Name: name, Args: args}} }
	one, two := term.Number(1), term.Number(2)
	program := NewProgram([]Clause{head("a", two), head("a"), head("b", one), head("a", one), head("a", one, two)})
	for _, c := range []struct {
		of   Predicate
		want []term.Term
	}{
		{Predicate{"a", 1}, []term.Term{two, one}}, {Predicate{"b", 1}, []term.Term{one}}, {Predicate{"a", 2}, []term.Term{one}}, {Predicate{"b", 0}, nil}, {Predicate{"c", 1}, nil},
	} {
		got := program[c.of]
		if len(got) != len(c.want) {
			t.Errorf("%v: %d clauses", c.of, len(got))
			continue
		}
		for i, want := range c.want {
			if got[i].Head.Args[0] != want {
				t.Errorf("%v: clause %d is another", c.of, i)
			}
		}
	}
	if len(program[Predicate{"a", 0}]) != 1 || len(NewProgram(nil)) != 0 {
		t.Error("clauses without arguments")
	}
}

// TestArity: P8's names, and no others.
func TestArity(t *testing.T) {
	for name, want := range map[string]int{
		"true": 0, "fail": 0, "var": 1, "nonvar": 1, "atom": 1, "integer": 1, "is": 2, "=": 2, "\\=": 2, "==": 2, "<": 2, ">": 2, "=<": 2, ">=": 2, "=:=": 2,
		"mod": -1, "a": -1, "!": -1, "+": -1, "": -1, "True": -1,
	} {
		arity, known := Arity(name)
		if known != (want >= 0) || known && arity != want {
			t.Errorf("P8: %s: %d, %v", name, arity, known)
		}
	}
}
