package compile

import (
	"errors"
	"strings"
	"testing"

	"horn/api"
	"horn/clause"
	"horn/code"
	"horn/syntax"
)

func read(t *testing.T, program, question string) (clause.Program, *clause.Question) {
	t.Helper()
	clauses, err := syntax.Program(program)
	if err != nil {
		t.Fatalf("%q: %v", program, err)
	}
	asked, err := syntax.Question(question)
	if err != nil {
		t.Fatalf("%q: %v", question, err)
	}
	return clause.NewProgram(clauses), asked
}

// TestCode: P14: the lines of heads, of terms and of each kind of goal.
func TestCode(t *testing.T) {
	for _, c := range [][3]string{
		{"p(1). p(2).", "p(X).", "pred p 1;clause 1;const 0 1;ret;clause 1;const 0 2;ret;query 1 1;new 0;call p 0;done;"},
		{"app([],L,L). app([H|T],L,[H|R]) :- app(T,L,R).", "app(X,Y,[1]).", "pred app 3;clause 3;const 0 [];same 2 1;ret;clause 7;split 0 . 3 4;split 2 . 6 5;same 6 3;call app 4 1 5;ret;query 4 2;new 0;new 1;put 2 [];put 3 1;make 2 . 3 2;call app 0 1 2;done;"},
		{"b(-1). a. a(X). a :- a.", "true.", "pred a 0;clause 0;ret;clause 0;call a;ret;pred a 1;clause 1;ret;pred b 1;clause 1;const 0 -1;ret;query 0 0;test true;done;"},
		{"", "X = f(Y,2), Z is Y mod X.", "query 4 3;new 0;new 1;new 2;put 3 2;make 3 f 1 3;test = 0 3;make 3 mod 1 0;test is 2 3;done;"},
		{"", "a ; b, c ; d.", "query 0 0;try 3;call a;done;try 7;call b;call c;done;call d;done;"},
		{"", "(a ; (b ; c) ; d), e.", "query 0 0;try 3;call a;jump 10;try 9;try 7;call b;jump 10;call c;jump 10;call d;call e;done;"},
		{"", "a -> b ; c.", "query 1 0;level 0;try 6;call a;cut 0;call b;done;call c;done;"},
		{"", "(a -> b), c.", "query 1 0;level 0;try 6;call a;cut 0;call b;jump 7;test fail;call c;done;"},
		{"", "\\+ \\+ a.", "query 2 0;level 0;try 9;level 1;try 7;call a;cut 1;test fail;cut 0;test fail;done;"},
		{"", "!, \\+ !, (! -> ! ; !).", "query 1 0;mark 0;cut 0;level 0;try 7;cut 0;cut 0;test fail;level 0;try 14;cut 0;cut 0;mark 0;cut 0;done;mark 0;cut 0;done;"},
	} {
		program, question := read(t, c[0], c[1])
		got, err := Code(program, question)
		if got = strings.ReplaceAll(got, "\n", ";"); got != c[2] || err != nil {
			t.Errorf("P14: %q to %q: %s, %v", c[1], c[0], got, err)
		}
	}
}

// TestSlots: P14: how many slots are needed, and that they are no more the longer a list is.
func TestSlots(t *testing.T) {
	for _, c := range []struct {
		question string
		want     int
	}{
		{"a.", 0}, {"a(1).", 1}, {"a(1,2,3,4).", 4}, {"a(1), a(1).", 1}, {"a(f(1,2),3).", 3}, {"a([1,2]).", 2}, {"a([1,2,3,4,5,6,7,8,9]).", 2}, {"a([[1,2],[3,4],[5,6]]).", 3}, {"a(1+2+3+4).", 4}, {"a(X,f(X),Y).", 3}, {"!, !.", 1}, {"(\\+ a(1) ; \\+ a(1)).", 2}, {"\\+ \\+ \\+ a.", 3}, {"(a -> \\+ a ; \\+ a).", 1},
	} {
		_, question := read(t, "", c.question)
		if b := questionBlock(question); b.most != c.want || b.free != len(question.Vars) {
			t.Errorf("%q: %d slots, %d of them still taken", c.question, b.most, b.free)
		}
	}
	program, _ := read(t, "p([1,[2],3,[4,f(5)],X,6,X|Y],Y).", "p.")
	if b := clauseBlock(program[clause.Predicate{Name: "p", Arity: 2}][0]); b.most != 8 {
		t.Errorf("%d slots of a list in a head", b.most)
	}
}

// TestFits: P14: what the machine could not do, or not soon enough, is told as api.ErrLimit, in a clause as in the question.
func TestFits(t *testing.T) {
	sum := func(operands int) string { return strings.Repeat("1+", operands-1) + "1" }
	for text, want := range map[string]bool{
		"a([" + strings.Repeat("1,", 35) + "1])": true, "a(f([" + strings.Repeat("1,", 35) + "1]))": true, "a(f([" + strings.Repeat("1,", 35) + "1],X))": true, "a([" + strings.Repeat("1,", 36) + "1])": false, "a(f([" + strings.Repeat("1,", 35) + "1]),2)": false,
		"a(" + sum(37) + ")": true, "a(" + sum(38) + ")": false, "a([" + strings.Repeat("1,", 35) + "1]), a([" + strings.Repeat("1,", 35) + "1])": true, "\\+ (b -> a([" + strings.Repeat("1,", 36) + "1]) ; b)": false,
	} {
		for _, c := range [][2]string{{"", text + "."}, {"b. b :- " + text + ".", "b."}} {
			program, question := read(t, c[0], c[1])
			got, err := Code(program, question)
			if _, fault := code.Read(got); want && (err != nil || fault != nil) || !want && (!errors.Is(err, api.ErrLimit) || got != "") {
				t.Errorf("P14: %q to %q: %v, %v", c[1], c[0], err, fault)
			}
		}
	}
	for operands, want := range map[int]bool{26: true, 32: true, 33: false, 200: false} {
		program, question := read(t, "p("+sum(operands)+").", "p(X).")
		if _, err := Code(program, question); (err == nil) != want {
			t.Errorf("P14: a head with %d operands: %v", operands, err)
		}
	}
}
