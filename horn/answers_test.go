package horn_test

import (
	"errors"
	"strconv"
	"strings"
	"testing"

	"horn/api"
	"horn/horn"
)

func load(t *testing.T, program string) *horn.Base {
	t.Helper()
	base, err := horn.Load(program)
	if err != nil {
		t.Fatalf("Load(%q): %v", program, err)
	}
	return base
}

func ask(t *testing.T, base *horn.Base, question string) *horn.Query {
	t.Helper()
	return askBy(t, base, question, false)
}

// askBy asks by walking, or by the machine.
func askBy(t *testing.T, base *horn.Base, question string, machine bool) *horn.Query {
	t.Helper()
	query, err := base.Ask(question, machine)
	if query == nil || err != nil {
		t.Fatalf("Ask(%q, %v): %v", question, machine, err)
	}
	return query
}

// told is an answer, or what ended the query: just one of the errors, without a place and with no text.
func told(t *testing.T, query *horn.Query) string {
	t.Helper()
	answer, err := query.Next()
	if err == nil {
		return answer
	}
	errno, place := api.Tell(err)
	if answer != "" || place != -1 || errno < api.ErrCode || errno > api.ErrFuel {
		t.Fatalf("P1: %q, %v", answer, err)
	}
	for e := api.OK; e <= api.ErrFuel; e++ {
		if errors.Is(err, e) != (e == errno) {
			t.Errorf("P6: %v is %d", err, e)
		}
	}
	return [...]string{"code", "none", "inst", "type", "zero", "proc", "fuel"}[errno-api.ErrCode]
}

// ends tells whether what was told is no answer.
func ends(text string) bool {
	return strings.Contains(" code none inst type zero proc fuel ", " "+text+" ")
}

// checkAnswers asks a question, by walking, by the machine and by its code, and holds what is told against what has to be.
func checkAnswers(t *testing.T, promise, program, question, want string) {
	t.Helper()
	what, base := strconv.Quote(question)+" to "+strconv.Quote(program), load(t, program)
	checkTold(t, promise+": "+what, ask(t, base, question), want)
	checkTold(t, "P14: by the machine: "+what, askBy(t, base, question, true), want)
	if !strings.Contains(question, "_") {
		checkTold(t, "P14: by its code: "+what, run(t, codeOf(t, base, question)), bare(want))
	}
}

// checkTold holds what a query tells, one after the other, against texts with `;` between. What ended it is asked for thrice.
func checkTold(t *testing.T, what string, query *horn.Query, want string) {
	t.Helper()
	for _, one := range strings.Split(want, "; ") {
		if got := told(t, query); got != one {
			t.Errorf("%s: got %s, want %s of %s", what, got, one, want)
			return
		}
		for range 2 {
			if ends(one) && told(t, query) != one {
				t.Errorf("P6: %s: another end", what)
			}
		}
	}
}

// TestAnswerForm: P6: which variables an answer has, in which order, and how they are written.
func TestAnswerForm(t *testing.T) {
	for question, want := range map[string]string{
		"a.":                                 "true; none",
		"_ = 1, _X = 2, __ = 3.":             "true; none",
		"X = 1.":                             "X = 1; none",
		"B = 1, A = 2, B = 1.":               "B = 1, A = 2; none",
		"f(_,Z,_Y,A) = f(1,2,3,4).":          "Z = 2, A = 4; none",
		"X = X.":                             "X = _1; none",
		"X = f(Y,Z,Y).":                      "X = f(_1,_2,_1), Y = _1, Z = _2; none",
		"f(B,A) = f(A,A).":                   "B = _1, A = _1; none",
		"X = f(_,_Y,_), Y = g(_Y,Z).":        "X = f(_1,_2,_3), Y = g(_2,_4), Z = _4; none",
		"X = (1+2)*3, Y = X*(X), Z = -1.":    "X = (1+2)*3, Y = (1+2)*3*((1+2)*3), Z = -1; none",
		"Y = 1+2, X = 3*Y, Z = 3-Y.":         "Y = 1+2, X = 3*(1+2), Z = 3-(1+2); none",
		"Y = 1*2, X = 3+Y, Z = Y+3.":         "Y = 1*2, X = 3+1*2, Z = 1*2+3; none",
		"X = [1,2|Y], Y = [3|Z], Z = [4].":   "X = [1,2,3,4], Y = [3,4], Z = [4]; none",
		"X = [1|Y], Y = [2|Z], Z = f(U).":    "X = [1,2|f(_1)], Y = [2|f(_1)], Z = f(_1), U = _1; none",
		"X = [Y,Z|U], Z = [V].":              "X = [_1,[_2]|_3], Y = _1, Z = [_2], U = _3, V = _2; none",
		"X = Y mod 2, Y = 1-1.":              "X = (1-1) mod 2, Y = 1-1; none",
		"(X = 1 ; Y = 2), Z = f(X,Y).":       "X = 1, Y = _1, Z = f(1,_1); X = _1, Y = 2, Z = f(_1,2); none",
		"(a ; X = 1 ; a).":                   "X = _1; X = 1; X = _1; none",
		"true ; fail ; true.":                "true; true; none",
		"fail.":                              "none",
		"X = Abcdefgh, Abcdefgh = abcdefgh.": "X = abcdefgh, Abcdefgh = abcdefgh; none",
	} {
		checkAnswers(t, "P6", "a.", question, want)
	}
	checkAnswers(t, "P6", "", "[A,B,C,D,E,F] = [G,H,I,J,K,L].", "A = _1, B = _2, C = _3, D = _4, E = _5, F = _6, G = _1, H = _2, I = _3, J = _4, K = _5, L = _6; none")
}

// TestWrongQuestions: P6: a question's fault, with its place and without a query.
func TestWrongQuestions(t *testing.T) {
	for text, want := range map[string]fault{
		"": syntaxAt(0), "X": syntaxAt(0), "a": syntaxAt(1), "a. ,": syntaxAt(3), "a, X = .": syntaxAt(7), "?": syntaxAt(0), "var(X,Y).": nameAt(0), "true, is(X).": nameAt(6), "a, b(1,2,3,4,5).": limitAt(3), "((((((((!)))))))).": limitAt(8), "p(A,B,C,D), p(E,F,G,H), p(I,J,K,L), M = 1.": limitAt(36), strings.Repeat(" ", 2001): {api.ErrLong, 0},
	} {
		checkQuestion(t, text, want)
	}
}

const (
	family  = "p(a,b). p(b,c). p(c,d). anc(X,Y) :- p(X,Y). anc(X,Y) :- p(X,Z), anc(Z,Y). "
	lists   = "app([],L,L). app([H|T],L,[H|R]) :- app(T,L,R). in(X,[X|_]). in(X,[_|T]) :- in(X,T). "
	numbers = "n(1). n(2). n(3). "
)

// TestSearch: P7: the order of answers, and of clauses, goals and alternatives.
func TestSearch(t *testing.T) {
	for _, c := range [][3]string{
		{family, "anc(a,X).", "X = b; X = c; X = d; none"},
		{family, "anc(X,Y).", "X = a, Y = b; X = b, Y = c; X = c, Y = d; X = a, Y = c; X = a, Y = d; X = b, Y = d; none"},
		{family, "anc(d,X).", "none"},
		{lists, "app(X,Y,[1]).", "X = [], Y = [1]; X = [1], Y = []; none"},
		{lists, "app(X,[b],[a|Y]).", "X = [a], Y = [b]; X = [a,_1], Y = [_1,b]; X = [a,_1,_2], Y = [_1,_2,b]"},
		{lists, "in(X,[a,B,c]).", "X = a, B = _1; X = _1, B = _1; X = c, B = _1; none"},
		{numbers, "n(X), n(Y), X > Y.", "X = 2, Y = 1; X = 3, Y = 1; X = 3, Y = 2; none"},
		{numbers, "n(X), (X = 2 ; Y = X) ; X = 9.", "X = 1, Y = 1; X = 2, Y = _1; X = 2, Y = 2; X = 3, Y = 3; X = 9, Y = _1; none"},
		{"a(1). b(1). a(2). b(2) :- a(9). a(3,4). a(5) :- true.", "a(X).", "X = 1; X = 2; X = 5; none"},
		{"p(X) :- q(X), r(X). q(1). q(2). r(2). r(2).", "p(X).", "X = 2; X = 2; none"},
		{"p(X,Y) :- Y = f(X,Z).", "p(1,A), p(Z,B).", "A = f(1,_1), Z = _2, B = f(_2,_3); none"},
		{"p(X,X).", "p(A,B), p(B,f(C)), p(C,1).", "A = f(1), B = f(1), C = 1; none"},
		{"p(_,_).", "p(A,b).", "A = _1; none"},
		{"p(f(X),[Y|Z]) :- q(Z,Y,X). q([],1,_).", "p(A,B).", "A = f(_1), B = [1]; none"},
		{"a. a :- a, fail.", "a.", "true; fuel"},
	} {
		checkAnswers(t, "P7", c[0], c[1], c[2])
	}
}

// TestCuts: P7: how far a cut reaches, also within `->`, `\+` and `;`. In the goal of `\+`, and ahead of `->`, it takes away the place that was put for that, too.
func TestCuts(t *testing.T) {
	for _, c := range [][3]string{
		{"", "(X = 1 ; X = 2), !.", "X = 1; none"},
		{"", "X = 1, ! ; X = 2.", "X = 1; none"},
		{"", "(X = 1, ! ; X = 2) ; X = 3.", "X = 1; none"},
		{"", "(X = 1 ; X = 2), (Y = 1, ! ; Y = 2).", "X = 1, Y = 1; none"},
		{"", "!, fail ; true.", "none"},
		{"", "!, (X = 1 ; X = 2).", "X = 1; X = 2; none"},
		{numbers + "c(X) :- n(X), !. c(4). d(X) :- c(X). d(5).", "d(X).", "X = 1; X = 5; none"},
		{numbers + "c(X,Y) :- n(X), X > 1, !, n(Y). c(4,4).", "c(X,Y).", "X = 2, Y = 1; X = 2, Y = 2; X = 2, Y = 3; none"},
		{numbers + "c(X) :- !, n(X). c(4).", "c(X).", "X = 1; X = 2; X = 3; none"},
		{numbers + "c(X) :- n(X), X > 3, !. c(4).", "c(X).", "X = 4; none"},
		{numbers + "c(1) :- !, fail. c(X).", "n(X), c(X).", "X = 2; X = 3; none"},
		{numbers + "c(X) :- n(X). c(4).", "c(X), !.", "X = 1; none"},
		{"t(X) :- (X = 1, ! ; X = 2). t(3).", "t(X).", "X = 1; none"},
		{"t(X) :- (fail ; !, X = 2 ; X = 4). t(3).", "t(X).", "X = 2; none"},
		{"t(X) :- (true, ! -> X = 1 ; X = 2). t(3).", "t(X).", "X = 1; X = 3; none"},
		{"t(X) :- (!, fail -> X = 1 ; X = 2). t(3).", "t(X).", "X = 3; none"},
		{"t(X) :- ((X = 1 ; X = 2), ! -> true ; X = 3). t(4).", "t(X).", "X = 1; X = 4; none"},
		{"t(X) :- (true -> ! ; true), X = 1. t(3).", "t(X).", "X = 1; none"},
		{"t(X) :- (fail -> X = 1 ; !, X = 2). t(3).", "t(X).", "X = 2; none"},
		{"t(X) :- (X = 0 ; (true -> (X = 1 ; X = 2), ! ; X = 3)). t(4).", "t(X).", "X = 0; X = 1; none"},
		{"t(X) :- \\+ (!, fail), X = 1. t(3).", "t(X).", "X = 3; none"},
		{"t(X) :- \\+ !, X = 1. t(3).", "t(X).", "X = 3; none"},
		{"t(X) :- \\+ \\+ (!, X = 2), X = 1. t(3).", "t(X).", "X = 1; X = 3; none"},
		{"t(X) :- (\\+ (X = 9, !) ; X = 1). t(3).", "t(X).", "X = 1; X = 3; none"},
		{"t(X) :- \\+ (!, fail ; true), X = 1. t(3).", "t(X).", "X = 3; none"},
		{"t(X) :- (\\+ fail -> \\+ \\+ !, X = 1 ; X = 2). t(3).", "t(X).", "X = 1; X = 3; none"},
	} {
		checkAnswers(t, "P7", c[0], c[1], c[2])
	}
}

// TestBranches: P7: `->`, with and without `;`, and `\+`.
func TestBranches(t *testing.T) {
	for _, c := range [][3]string{
		{numbers, "n(X) -> n(Y) ; Y = 4.", "X = 1, Y = 1; X = 1, Y = 2; X = 1, Y = 3; none"},
		{numbers, "n(X), X > 3 -> Y = X ; n(Y).", "X = _1, Y = 1; X = _1, Y = 2; X = _1, Y = 3; none"},
		{numbers, "n(X), X > 3 -> true.", "none"},
		{numbers, "(n(X), X > 1 -> true) ; X = 0.", "X = 2; X = 0; none"},
		{numbers, "n(X), (X = 2 -> Y = b ; Y = c).", "X = 1, Y = c; X = 2, Y = b; X = 3, Y = c; none"},
		{numbers, "true -> fail ; n(X).", "none"},
		{numbers, "fail -> X = 1 ; fail -> X = 2 ; X = 3.", "X = 3; none"},
		{numbers, "(fail ; n(X)) -> true ; X = 5.", "X = 1; none"},
		{numbers, "X = 1 ; fail -> X = 2 ; X = 3.", "X = 1; X = 3; none"},
		{numbers, "X = 1 -> (X = 2 ; X = 1) ; X = 3.", "X = 1; none"},
		{numbers, "(n(X) -> true), n(Y), Y > 2.", "X = 1, Y = 3; none"},
		{numbers, "(fail -> true ; n(X)), X > 1, (n(Y) -> true ; true), Z = Y.", "X = 2, Y = 1, Z = 1; X = 3, Y = 1, Z = 1; none"},
		{numbers, "(fail -> true ; true), b.", "proc"},
		{numbers, "\\+ n(4), X = 1.", "X = 1; none"},
		{numbers, "\\+ n(X).", "none"},
		{numbers, "\\+ \\+ n(X), n(X).", "X = 1; X = 2; X = 3; none"},
		{numbers, "n(X), \\+ X = 2.", "X = 1; X = 3; none"},
		{numbers, "\\+ (n(X), X > 3), var(X).", "X = _1; none"},
		{numbers, "\\+ fail.", "true; none"},
		{numbers, "\\+ X is a.", "type"},
		{numbers, "b -> true ; true.", "proc"},
	} {
		checkAnswers(t, "P7", c[0], c[1], c[2])
	}
}

// TestSame: P7: made the same.
func TestSame(t *testing.T) {
	for question, want := range map[string]string{
		"a = a.": "true; none", "a = b.": "none", "1 = 1.": "true; none", "1 = 2.": "none", "a = 1.": "none", "a = f(a).": "none", "f(a) = a.": "none", "1 = f(1).": "none", "f(1) = 1.": "none", "[] = [].": "true; none", "[] = [X].": "none",
		"f(a) = g(a).": "none", "f(a) = f(a,b).": "none", "f(a,b) = f(a,b).": "true; none", "f(a,b) = f(a,c).": "none", "f(b,a) = f(c,a).": "none", "1+2 = 3.": "none", "1+2 = 1+2.": "true; none", "1+2+3 = X+Y.": "X = 1+2, Y = 3; none", "-1 = 0-1.": "none", "[a|X] = [a,b].": "X = [b]; none", "mod(X,2) = 1 mod 2.": "X = 1; none",
		"X = X.": "X = _1; none", "X = f(X).": "none", "f(X) = X.": "none", "X = [a,b|X].": "none", "X = f(Y), Y = g(X).": "none", "X = Y, Y = f(X).": "none", "X = f(Y,Y), Y = Z, Z = a.": "X = f(a,a), Y = a, Z = a; none", "f(X,Y) = f(Y,X).": "X = _1, Y = _1; none", "f(X,X) = f(Y,g(Y)).": "none", "f(X,Y,Z) = f(Y,Z,X).": "X = _1, Y = _1, Z = _1; none", "X = Y, Y = X, X = 1.": "X = 1, Y = 1; none", "f(X,b) = f(a,X).": "none", "X = f(Y), X = f(a), Y = a.": "X = f(a), Y = a; none",
		"(X = 1, X = 2 ; X = 3).": "X = 3; none", "(f(X,1) = f(2,2) ; X = 3).": "X = 3; none", "(X = Y, Y = Z, Z = 1, fail ; X = 2).": "X = 2, Y = _1, Z = _2; none",
	} {
		checkAnswers(t, "P7", "", question, want)
	}
	checkAnswers(t, "P7", "p(X,f(X)). p(1,2).", "p(Y,Y).", "none")
	checkAnswers(t, "P7", "p(X,f(X)). p(1,1).", "p(Y,Y).", "Y = 1; none")
}

// TestLanguageGoals: P8.
func TestLanguageGoals(t *testing.T) {
	for question, want := range map[string]string{
		"true.": "true; none", "fail.": "none",
		"a \\= b.": "true; none", "a \\= a.": "none", "X \\= a.": "none", "f(X,a) \\= f(b,c), var(X).": "X = _1; none", "X \\= f(X).": "X = _1; none", "f(X,Y) \\= f(1,2) ; var(X), var(Y).": "X = _1, Y = _2; none", "X = 1, X \\= 2.": "X = 1; none",
		"X == X.": "X = _1; none", "X == Y.": "none", "X == a.": "none", "a == X.": "none", "X = a, X == a.": "X = a; none", "X = Y, X == Y.": "X = _1, Y = _1; none", "f(X,1) == f(X,1).": "X = _1; none", "f(X) == f(Y).": "none", "f(a) == f(a,b).": "none", "f(a) == g(a).": "none", "f(a,b) == f(a,c).": "none", "1+1 == 2.": "none", "1 == 1.": "true; none", "1 == a.": "none", "a == f(a).": "none", "f(a) == a.": "none", "X = [1|Y], Y = [2], X == [1,2].": "X = [1,2], Y = [2]; none", "X == f(X).": "none",
		"X is 1+2.": "X = 3; none", "3 is 1+2.": "true; none", "4 is 1+2.": "none", "1+2 is 1+2.": "none", "X = 3, X is 1+2.": "X = 3; none", "is(X,1).": "X = 1; none", "a is 1.": "none", "f(X) is 1.": "none", "X is X.": "inst", "X = 1, X is X+1.": "none",
		"1 < 2, \\+ 1 < 1, \\+ 2 < 1.": "true; none", "2 > 1, \\+ 1 > 1, \\+ 1 > 2.": "true; none", "1 =< 2, 1 =< 1, \\+ 2 =< 1.": "true; none", "2 >= 1, 1 >= 1, \\+ 1 >= 2.": "true; none", "1 =:= 1, \\+ 1 =:= 2, 1+3 =:= 2*2.": "true; none", "-1 < 0, -2 < -1, 0 > -1.": "true; none",
		"var(X).": "X = _1; none", "var(a).": "none", "X = Y, var(X), Y = 1, \\+ var(X).": "X = 1, Y = 1; none", "var(_).": "true; none", "var(f(_)).": "none",
		"nonvar(X).": "none", "nonvar(a), nonvar(1), nonvar([]), nonvar(f(_)), nonvar([_]).": "true; none", "X = a, nonvar(X).": "X = a; none",
		"atom(a), atom([]), atom(mod).": "true; none", "atom(X).": "none", "atom(1).": "none", "atom(f(a)).": "none", "atom([a]).": "none", "X = a, atom(X).": "X = a; none",
		"integer(1), integer(-1), integer(0).": "true; none", "integer(X).": "none", "integer(a).": "none", "integer(1+1).": "none", "integer(f(1)).": "none", "X is 1+1, integer(X).": "X = 2; none",
	} {
		checkAnswers(t, "P8", "", question, want)
	}
}

// least and greatest are values of 64 bits that no number of a text has.
const (
	least    = "L is -1*8*1024*1024*1024*1024*1024*1024"
	greatest = "G is -1*8*1024*1024*1024*1024*1024*1024-1"
)

// TestValues: P9: 64 bits, wrapping round; `//` towards 0, `mod` with the sign of what it is divided by.
func TestValues(t *testing.T) {
	for question, want := range map[string]string{
		"X is 7.": "X = 7; none", "X is 1-2-3.": "X = -4; none", "X is 1-(2-3).": "X = 2; none", "X is 2+3*4.": "X = 14; none", "X is -3* -4.": "X = 12; none", "Y = 2*3, X is Y-1.": "Y = 2*3, X = 5; none", "X is mod(7,4).": "X = 3; none",
		"X is 7//2.": "X = 3; none", "X is -7//2.": "X = -3; none", "X is 7// -2.": "X = -3; none", "X is -7// -2.": "X = 3; none", "X is 0//5.": "X = 0; none", "X is 1//2.": "X = 0; none", "X is -1//2.": "X = 0; none",
		"X is 7 mod 2.": "X = 1; none", "X is -7 mod 2.": "X = 1; none", "X is 7 mod -2.": "X = -1; none", "X is -7 mod -2.": "X = -1; none", "X is 6 mod 3.": "X = 0; none", "X is -6 mod 3.": "X = 0; none", "X is 6 mod -3.": "X = 0; none", "X is 1 mod 5.": "X = 1; none", "X is -1 mod 5.": "X = 4; none", "X is 1 mod -5.": "X = -4; none",
		least + ".":                   "L = -9223372036854775808; none",
		greatest + ".":                "G = 9223372036854775807; none",
		greatest + ", X is G+1.":      "G = 9223372036854775807, X = -9223372036854775808; none",
		least + ", X is L*L.":         "L = -9223372036854775808, X = 0; none",
		least + ", X is L* -1.":       "L = -9223372036854775808, X = -9223372036854775808; none",
		least + ", X is L// -1.":      "L = -9223372036854775808, X = -9223372036854775808; none",
		least + ", X is L mod -1.":    "L = -9223372036854775808, X = 0; none",
		least + ", X is 1 mod L.":     "L = -9223372036854775808, X = -9223372036854775807; none",
		greatest + ", X is -1 mod G.": "G = 9223372036854775807, X = 9223372036854775806; none",
		greatest + ", X is G*G.":      "G = 9223372036854775807, X = 1; none",
		least + ", " + greatest + ", L < G, \\+ L > G, \\+ L =:= G.": "L = -9223372036854775808, G = 9223372036854775807; none",
		"X is 999999999*999999999*999999999.":                        "X = 8515845249265065471; none",
	} {
		checkAnswers(t, "P9", "", question, want)
	}
}

// TestEndings: P9: the errors that end a query, whichever comes first.
func TestEndings(t *testing.T) {
	for question, want := range map[string]string{
		"X is Y.": "inst", "X is 1+Y.": "inst", "X < 1.": "inst", "1 < X.": "inst", "X =:= X.": "inst", "Y = X, Z is Y*2.": "inst",
		"X is a.": "type", "X is [].": "type", "X is f(1).": "type", "X is f(1,2).": "type", "X is [1].": "type", "X is mod(1).": "type", "X is 1+a.": "type", "a < 1.": "type", "1 >= a.": "type",
		"X is 1//0.": "zero", "X is 1 mod 0.": "zero", "X is 0//0.": "zero", "X is 1//(2-2).": "zero", "1//0 < 1.": "zero", "1 =< 1 mod 0.": "zero",
		"X is Y+a.": "inst", "X is a+Y.": "type", "X is 1//0+Y.": "zero", "X is Y+1//0.": "inst", "X is Y//0.": "inst", "X is a mod 0.": "type", "X < a.": "inst", "a < X.": "type", "X is f(Y).": "type", "a is Y.": "inst",
		"b.": "proc", "a(1).": "proc", "mod.": "proc", "mod(1).": "proc", "fail, b.": "none", "true, b.": "proc", "b, X is a.": "proc", "X is a, b.": "type", "\\+ b.": "proc", "fail -> b.": "none",
		"X = 1 ; b.": "X = 1; proc", "X = 1 ; X is a ; X = 2.": "X = 1; type", "X = 1, ! ; b.": "X = 1; none", "(X = 1 ; X = 0), Y is 6//X.": "X = 1, Y = 6; zero",
	} {
		checkAnswers(t, "P9", "a.", question, want)
	}
	checkAnswers(t, "P9", "a :- b(1). b.", "a.", "proc")
	checkAnswers(t, "P9", "a(1). a(X) :- X is b.", "a(X).", "X = 1; type")
}

// TestMuch: P10: what comes before more than 20,000 are counted is told, even if rows of goals, atoms that are looked into and the ends of `->` and `\+` counted, too.
func TestMuch(t *testing.T) {
	down := "c(0). c(N) :- N > 0, M is N-1, c(M). "
	checkAnswers(t, "P10", down, "c(1170).", "true; none")
	checkAnswers(t, "P10", down+"d(X) :- c(1150), X is a.", "d(X).", "type")
	checkAnswers(t, "P10", down, "c(1150), b.", "proc")
	checkAnswers(t, "P10", down, "c(1150), fail.", "none")
	checkAnswers(t, "P10", "l(0,[]). l(N,[N|T]) :- N > 0, M is N-1, l(M,T).", "l(400,X), X = [400|_], fail ; X = 1.", "X = 1; none")
	doubled := "d(0,a). d(N,f(T,T)) :- N > 0, M is N-1, d(M,T). "
	full := "a"
	for range 12 {
		full = "f(" + full + "," + full + ")"
	}
	checkAnswers(t, "P10", doubled, "d(12,X).", "X = "+full)
}

// TestNever: P10: a search that would never end is ended, also one that has answers for ever.
func TestNever(t *testing.T) {
	for _, c := range [][2]string{
		{"p :- p.", "p."}, {"p :- p, p.", "p."}, {"p :- \\+ p.", "p."}, {"p :- (p -> true ; true).", "p."}, {"p :- (p ; p).", "p."}, {"p :- !, p.", "p."}, {"p. q :- p, q.", "q."},
		{"p(X) :- p(f(X)).", "p(a)."}, {"p(X) :- p(f(X,X)).", "p(Y)."}, {"p(X) :- X == X, p(f(X,X)).", "p(Y)."}, {"p(X,Y) :- X = Y, p(f(X,X),f(Y,Y)).", "p(X,Y)."}, {"p(X) :- Y is X+1, p(Y).", "p(0)."}, {"p(X) :- Y is X*2, p(Y).", "p(1)."},
		{"n(0). n(X) :- n(Y), X is Y+1.", "n(X), X < 0."}, {"n. n :- n.", "n, fail."}, {"p(X) :- p([X|X]).", "p(X)."},
	} {
		checkAnswers(t, "P10", c[0], c[1], "fuel")
	}
	for _, c := range [][2]string{{"n. n :- n.", "n."}, {"n(0). n(s(X)) :- n(X).", "n(X)."}, {"n(X). n(X) :- n([X|Y]).", "n(X)."}, {"n(X) :- n(Y). n(1).", "n(X) ; n(X)."}} {
		for _, machine := range []bool{false, true} {
			query, last := askBy(t, load(t, c[0]), c[1], machine), ""
			for range 100 * api.Fuel {
				if last = told(t, query); last == "fuel" {
					break
				}
			}
			if last != "fuel" {
				t.Errorf("P10: %q to %q: %s", c[1], c[0], last)
			}
		}
	}
}

// TestSideBySide: P1: questions under way to one program, and to others, know nothing of one another.
func TestSideBySide(t *testing.T) {
	base, other := load(t, lists), load(t, lists)
	var queries []*horn.Query
	for i := range 6 {
		asked := base
		if i%3 == 0 {
			asked = other
		}
		queries = append(queries, ask(t, asked, "app(X,Y,[1,2,Z])."))
	}
	stuck := ask(t, base, "app(X,X,X), fail.")
	want := strings.Split("X = [], Y = [1,2,_1], Z = _1; X = [1], Y = [2,_1], Z = _1; X = [1,2], Y = [_1], Z = _1; X = [1,2,_1], Y = [], Z = _1; none; none; none; none", "; ")
	done := make([]int, len(queries))
	for turn := range 24 {
		for i, query := range queries {
			if (turn+i)%3 != 0 {
				continue
			}
			if got := told(t, query); got != want[done[i]] {
				t.Fatalf("P1: question %d, answer %d: got %s, want %s", i, done[i], got, want[done[i]])
			}
			done[i]++
		}
		told(t, stuck)
	}
}

// TestAskedAgain: P1: a question asked again has the same answers, whatever the ones before did.
func TestAskedAgain(t *testing.T) {
	base := load(t, family)
	for i := range 5 {
		query := ask(t, base, "anc(a,X).")
		for n, want := range []string{"X = b", "X = c", "X = d", "none"} {
			if got := told(t, query); got != want {
				t.Errorf("P1: time %s: got %s, want %s", strconv.Itoa(i), got, want)
			}
			if n == i {
				break
			}
		}
	}
}

// TestUnmade: P1: no call panics, not even of what no call made.
func TestUnmade(t *testing.T) {
	for _, query := range []*horn.Query{nil, {}, ask(t, nil, "fail."), ask(t, &horn.Base{}, "fail.")} {
		if got := told(t, query); got != "none" {
			t.Errorf("P1: %s", got)
		}
	}
	if got := told(t, ask(t, nil, "a.")); got != "proc" {
		t.Errorf("P1: %s", got)
	}
}
