package walk

import (
	"errors"
	"testing"

	"horn/api"
	"horn/clause"
	"horn/store"
	"horn/syntax"
)

func begun(t *testing.T, program, question string) *Walker {
	t.Helper()
	clauses, err := syntax.Program(program)
	if err != nil {
		t.Fatalf("%q: %v", program, err)
	}
	asked, err := syntax.Question(question)
	if err != nil {
		t.Fatalf("%q: %v", question, err)
	}
	return New(clause.NewProgram(clauses), asked)
}

// needed tells how much is counted up to the n-th answer or end.
func needed(t *testing.T, program, question string, n int) int {
	t.Helper()
	for much := range most {
		w := begun(t, program, question)
		w.Store = store.New(much)
		var err error
		for left := n; left > 0 && err == nil; left-- {
			_, err = store.Caught(w.Answer)
		}
		if !errors.Is(err, api.ErrFuel) {
			return much
		}
	}
	return most
}

// TestCount: P10: how much the search counts, from the query's beginning on.
func TestCount(t *testing.T) {
	for _, c := range []struct {
		program, question string
		first, second     int
	}{
		{"", "true.", 1, 1},
		{"", "true, true, true.", 3, 3},
		{"", "fail.", 1, 1},
		{"", "!, true.", 2, 2},
		{"", "true ; true.", 2, 3},
		{"", "true -> true.", 4, 4},
		{"", "fail -> true ; true.", 3, 3},
		{"", "\\+ fail.", 2, 2},
		{"", "\\+ true.", 4, 4},
		{"", "X = a.", 3, 3},
		{"", "X = f(Y,a).", 7, 7},
		{"", "X = [a,b|Y].", 9, 9},
		{"", "X = [a,b].", 7, 7},
		{"a.", "a.", 2, 2},
		{"a. a.", "a.", 2, 3},
		{"a :- true, true.", "a.", 4, 4},
		{"a(1). a(2).", "a(2).", 5, 5},
		{"a(1). a(2).", "a(X).", 4, 7},
		{"a(1,1). a(2,2).", "a(1,2).", 6, 6},
	} {
		if got := needed(t, c.program, c.question, 1); got != c.first {
			t.Errorf("P10: %q to %q: got %d, want %d", c.question, c.program, got, c.first)
		}
		if got := needed(t, c.program, c.question, 2); got != c.second {
			t.Errorf("P10: %q to %q, second: got %d, want %d", c.question, c.program, got, c.second)
		}
	}
}

// TestPlaces: P7: a place stays only while there are more clauses, and a cut leaves those that were there.
func TestPlaces(t *testing.T) {
	for _, c := range []struct {
		program, question string
		want              int
	}{
		{"a.", "a.", 0}, {"a. a.", "a.", 1}, {"a(1). a(2).", "a(2).", 0}, {"a(1). a(2). a(3).", "a(2).", 1}, {"a. a.", "a, a, a.", 3}, {"a. a.", "a, !, a.", 1},
		{"a. a.", "(a -> a ; a).", 1}, {"a. a.", "\\+ fail, a.", 1}, {"a. a. b :- a, !. b.", "a, b.", 1}, {"a. a.", "(a, a -> true ; true), a.", 1}, {"a. a.", "a ; a.", 2},
	} {
		w := begun(t, c.program, c.question)
		if _, err := store.Caught(w.Answer); err != nil || w.Height() != c.want {
			t.Errorf("P7: %q to %q: %d places, %v", c.question, c.program, w.Height(), err)
		}
	}
}

// TestProgramStays: P1: what a question binds is not the program's, nor another question's.
func TestProgramStays(t *testing.T) {
	clauses, err := syntax.Program("a(X,f(X,Y)) :- X = Y.")
	if err != nil {
		t.Fatal(err)
	}
	asked, err := syntax.Question("a(A,B), A = 1.")
	if err != nil {
		t.Fatal(err)
	}
	program := clause.NewProgram(clauses)
	for range 2 {
		if got := New(program, asked).Answer(); got != "A = 1, B = f(1,1)" {
			t.Errorf("P1: %s", got)
		}
	}
	for _, v := range clauses[0].Vars {
		if v.Value != nil {
			t.Errorf("P1: %s was bound", v.Name)
		}
	}
}
