package horn_test

import (
	"errors"
	"slices"
	"strconv"
	"strings"
	"testing"

	"horn/api"
	"horn/horn"
)

// codeOf is the code of a question.
func codeOf(t *testing.T, base *horn.Base, question string) string {
	t.Helper()
	code, err := base.Code(question)
	if code == "" || err != nil {
		t.Fatalf("Code(%q): %v", question, err)
	}
	return code
}

// bare is what is told without the names of variables, as a code tells it.
func bare(told string) string {
	all := strings.Split(told, "; ")
	for i, one := range all {
		parts := strings.Split(one, ", ")
		for j, part := range parts {
			if _, value, named := strings.Cut(part, " = "); named {
				parts[j] = value
			}
		}
		all[i] = strings.Join(parts, ", ")
	}
	return strings.Join(all, "; ")
}

// toldAll is the first so many that a query tells, up to what ends it.
func toldAll(t *testing.T, query *horn.Query, many int) []string {
	t.Helper()
	var all []string
	for range many {
		all = append(all, told(t, query))
		if ends(all[len(all)-1]) {
			break
		}
	}
	return all
}

// checkAlike holds what the machine tells, and what a question's code tells, against what walking does, as long as that has fuel.
func checkAlike(t *testing.T, base *horn.Base, program, question string, many int) []string {
	t.Helper()
	want := toldAll(t, ask(t, base, question), many)
	if last := len(want) - 1; want[last] == "fuel" {
		want = want[:last]
	}
	if got := toldAll(t, askBy(t, base, question, true), len(want)); !slices.Equal(got, want) {
		t.Errorf("P14: %s to %s: by the machine %v, want %v", short(question), short(program), got, want)
	}
	got := toldAll(t, run(t, codeOf(t, base, question)), len(want))
	alike := func(a, b string) bool {
		return a == bare(b) || strings.Contains(question, "_") && !ends(a) && !ends(b)
	}
	if !slices.EqualFunc(got, want, alike) {
		t.Errorf("P14: %s to %s: by its code %v, want %v", short(question), short(program), got, want)
	}
	return want
}

// TestKinds: P14: each kind of goal, and cuts within each, have the same answers by the machine; checkAnswers asks all ways.
func TestKinds(t *testing.T) {
	program := "b(1). b(2). b(3). b(1,2). c. t(X) :- G. t(9). "
	for goal, want := range map[string]string{
		"b(X), X > 1": "2 3 9", "b(X), b(Y), X > Y": "2 3 3 9", "b(X) ; X = 7": "1 2 3 7 9", "(b(X) ; X = 7), X > 2": "3 7 9", "b(X), (X = 1 ; X = 3 ; X = 1)": "1 1 3 9",
		"b(X) -> true": "1 9", "b(Y), Y > 1 -> X = Y": "2 9", "fail -> X = 1": "9", "fail -> X = 1 ; b(X)": "1 2 3 9", "c -> b(X) ; X = 1": "1 2 3 9", "(c -> b(X)), X > 1": "2 3 9", "(b(X), X > 1 -> true ; X = 5), b(Y), Y >= X": "2 2 9", "fail -> c ; fail -> c ; X = 4": "4 9", "fail -> c ; c -> X = 3 ; X = 4": "3 9", "(fail ; c) -> (X = 1 ; X = 2) ; X = 3": "1 2 9",
		"\\+ c, X = 1": "9", "\\+ b(4), X = 1": "1 9", "\\+ \\+ b(X), X = 5": "5 9", "b(X), \\+ X = 2": "1 3 9", "\\+ (b(X), X > 2 ; c)": "9", "X = 1, \\+ (fail -> c ; fail)": "1 9", "\\+ (c, fail), \\+ \\+ c, b(X)": "1 2 3 9",
		"b(X), !": "1", "!, b(X)": "1 2 3", "b(X), X > 1, !": "2", "b(X) ; !": "1 2 3 _1", "(b(X), ! ; X = 7)": "1", "b(Y), (X = Y ; !, X = 5)": "1 5", "((b(X), !)), true": "1", "(! ; c), b(X)": "1 2 3", "((((!)))), fail": "", "!, fail ; X = 1": "",
		"(b(X), ! -> true ; c)": "1 9", "(! -> b(X) ; c)": "1 2 3 9", "(c -> !, b(X) ; c)": "1 2 3", "(fail -> c ; !, b(X))": "1 2 3", "b(X), (X > 1 -> ! ; c)": "1 2", "(!, fail -> c ; X = 1)": "9", "((! ; c), fail -> c ; X = 1)": "9", "(c -> (c -> !) ; c), b(X)": "1 2 3", "(b(X), (X > 1, ! ; fail) -> c ; c)": "2 9",
		"\\+ !, X = 1": "9", "\\+ (!, fail), X = 1": "9", "\\+ (b(Y), !, Y > 1), X = 1": "9", "\\+ (c, fail ; !, fail), X = 1": "9", "\\+ \\+ !, b(X)": "1 2 3 9", "\\+ \\+ (c ; !), b(X)": "1 2 3 9", "\\+ (c -> !, fail ; c), b(X)": "9",
		"b(X,Y), Y > X": "1 9", "b(X), b(X,_)": "1 9", "X is 1+2": "3 9", "X = f(Y,Y), Y = 1, X == f(1,1)": "f(1,1) 9", "var(X), X = 1, integer(X)": "1 9", "true, b(X), true": "1 2 3 9", "X = a, atom(X), nonvar(X), X \\= b": "a 9",
		"d(X)": "proc", "b": "proc", "b(X,X,X)": "proc", "b(X), d": "proc", "b(X), X > 1 ; d": "2 3 proc", "fail, d ; X = 1": "1 9", "\\+ d": "proc", "d -> c ; c": "proc", "X is Y": "inst", "b(X), Y is 6//(2-X)": "1 zero", "b(X), X < a": "type",
	} {
		var all []string
		for _, one := range strings.Fields(want) {
			if !ends(one) {
				one = "X = " + one
			}
			all = append(all, one)
		}
		if len(all) == 0 || !ends(all[len(all)-1]) {
			all = append(all, "none")
		}
		checkAnswers(t, "P7", strings.Replace(program, "G", goal, 1), "t(X).", strings.Join(all, "; "))
	}
}

// TestHeads: P14: heads by the machine: variables that stand there twice, by themselves and within, and what is taken apart or becomes something.
func TestHeads(t *testing.T) {
	for _, c := range [][3]string{
		{"p(X,X).", "p(A,B).", "A = _1, B = _1; none"}, {"p(X,X).", "p(1,A).", "A = 1; none"}, {"p(X,X).", "p(1,2).", "none"}, {"p(X,X).", "p(A,f(A)).", "none"}, {"p(X,X,X).", "p(f(A),f(B),f(1)).", "A = 1, B = 1; none"},
		{"p(f(X),X).", "p(A,B).", "A = f(_1), B = _1; none"}, {"p(f(X),X).", "p(A,A).", "none"}, {"p(X,f(X)).", "p(A,A).", "none"}, {"p(X,f(X)).", "p(1,A).", "A = f(1); none"}, {"p(X,f(X)).", "p(A,f(2)).", "A = 2; none"}, {"p(f(X),g(X)).", "p(f(1),A).", "A = g(1); none"}, {"p(f(X),g(X)).", "p(A,g(1)).", "A = f(1); none"}, {"p(f(X),g(X)).", "p(f(1),g(2)).", "none"},
		{"p(f(X,X)).", "p(f(A,1)).", "A = 1; none"}, {"p(f(X,X)).", "p(A).", "A = f(_1,_1); none"}, {"p(f(X,X)).", "p(f(A,g(A))).", "none"}, {"p(f(X,g(X,h(X,X)))).", "p(f(A,B)).", "A = _1, B = g(_1,h(_1,_1)); none"}, {"p(f(X,g(X,h(X,X)))).", "p(f(A,g(B,h(C,1)))).", "A = 1, B = 1, C = 1; none"},
		{"p([H|T],H,T).", "p([1,2],A,B).", "A = 1, B = [2]; none"}, {"p([H|T],H,T).", "p(A,1,[]).", "A = [1]; none"}, {"p([a,X|T],X).", "p([A,b,c],B).", "A = a, B = b; none"}, {"p([a,X|T],X).", "p([A],B).", "none"}, {"p([[X],[Y]|[X,Y]]).", "p([A,B,1,2]).", "A = [1], B = [2]; none"},
		{"p(a,1,[],-1).", "p(A,B,C,D).", "A = a, B = 1, C = [], D = -1; none"}, {"p(a,1,[],-1).", "p(a,1,[],-2).", "none"}, {"p(1+X*Y).", "p(A+B*C).", "A = 1, B = _1, C = _2; none"}, {"p((X mod 2)-Y).", "p(A).", "A = _1 mod 2-_2; none"}, {"p(f(a,g(b,h(c,d)),e)).", "p(A).", "A = f(a,g(b,h(c,d)),e); none"}, {"p(f(g(a,b),g(c,d),g(e,h),i)).", "p(f(g(A,B),C,g(D,E),F)).", "A = a, B = b, C = g(c,d), D = e, E = h, F = i; none"},
		{"p(_,_).", "p(A,B).", "A = _1, B = _2; none"}, {"p(f(_,_)).", "p(f(A,B)).", "A = _1, B = _2; none"}, {"p(X) :- q(Y,X). q(1,Z).", "p(A).", "A = _1; none"}, {"p(X) :- Y = f(X,Z), q(Y,Z). q(f(1,2),W) :- W = 2.", "p(A).", "A = 1; none"}, {"p(X,Y) :- X = Y.", "p(A,B), p(B,1).", "A = 1, B = 1; none"},
		{"p(1,a). p(2,b). p(X,c) :- X = 3.", "p(A,B).", "A = 1, B = a; A = 2, B = b; A = 3, B = c; none"},
	} {
		checkAnswers(t, "P7", c[0], c[1], c[2])
	}
}

// TestCodeTells: P14: a code tells all variables of the question, those with `_` too, in the order in which they stand there; Ask does not.
func TestCodeTells(t *testing.T) {
	base := load(t, "p(1). p(2). q(f(X,Y),X).")
	for question, want := range map[string][2]string{
		"p(X), p(_), _Y = X.": {"X = 1; X = 1; X = 2; X = 2; none", "1, 1, 1; 1, 2, 1; 2, 1, 2; 2, 2, 2; none"}, "p(_).": {"true; true; none", "1; 2; none"}, "p(1).": {"true; none", "true; none"}, "p(_), p(_).": {"true; true; true; true; none", "1, 1; 1, 2; 2, 1; 2, 2; none"},
		"q(_A,B).": {"B = _1; none", "f(_1,_2), _1; none"}, "q(B,_A).": {"B = f(_1,_2); none", "f(_1,_2), _1; none"}, "B = A, _ = C, D = f(C,_,A).": {"B = _1, A = _1, C = _2, D = f(_2,_3,_1); none", "_1, _1, _2, _2, f(_2,_3,_1), _3; none"}, "\\+ p(_X), Y = 1.": {"none", "none"}, "\\+ _X = 1 ; Y = 2.": {"Y = 2; none", "_1, 2; none"}, "fail ; _Z = Y ; true.": {"Y = _1; Y = _1; none", "_1, _1; _1, _2; none"},
		"[A,B,C,D,E,F,G,H,I,J,K,_] = [1,2,3,4,5,6,7,8,9,0,a,b].": {"A = 1, B = 2, C = 3, D = 4, E = 5, F = 6, G = 7, H = 8, I = 9, J = 0, K = a; none", "1, 2, 3, 4, 5, 6, 7, 8, 9, 0, a, b; none"},
	} {
		for _, machine := range []bool{false, true} {
			checkTold(t, "P6: "+question, askBy(t, base, question, machine), want[0])
		}
		checkTold(t, "P14: "+question, run(t, codeOf(t, base, question)), want[1])
	}
}

// TestCodeIsOne: P14, P1: what a code is hangs on the program and the question alone.
func TestCodeIsOne(t *testing.T) {
	program := "b(1). a. c :- d. d(X,Y) :- a, b(X). d. e. f(X). f(X,Y). f. g. h. i. j. k."
	want := codeOf(t, load(t, program), "d(X,Y) ; f.")
	for range 30 {
		if got := codeOf(t, load(t, program), "d(X,Y) ; f."); got != want {
			t.Fatalf("P1: %s, then %s", want, got)
		}
	}
	if codeOf(t, load(t, program), "d(X,Y) ; f, true.") == want {
		t.Error("P14: one code for two questions")
	}
}

// wide is a term with so many terms in all.
func wide(terms int) string {
	if terms%2 == 0 {
		return "g(" + wide(terms-1) + ")"
	}
	return "[" + strings.TrimSuffix(strings.Repeat("1,", terms/2), ",") + "]"
}

// some is so many texts, one behind the other.
func some(many int, text, between string) string {
	return strings.TrimSuffix(strings.Repeat(text+between, many), between)
}

// counted is programs and questions of which a clause, or the question, is written with so many terms, of each kind that counts.
func counted(terms int) [][2]string {
	bodies := []string{
		"b(" + wide(terms) + ")", "b(a), b(" + wide(terms-1) + ")", wide(terms-1) + " = a ; true", "1 = " + wide(terms-1) + " ; true", wide(terms/2) + " = " + wide(terms-terms/2) + " ; true", wide(terms/2) + " \\= " + wide(terms-terms/2) + " ; true", wide(terms/2) + " == " + wide(terms-terms/2) + " ; true",
		"1 is 1" + strings.Repeat("+1", terms/2-1) + " ; true", "1" + strings.Repeat("*1", terms/2-1) + " > 0", "nonvar(" + wide(terms) + ")",
		some(terms, "(true -> true)", ", "), some(terms, "\\+ fail", ", "), some(terms/2, "(\\+ true -> true ; true)", ", "), some(terms/5, "(\\+ \\+ \\+ \\+ \\+ fail ; true)", ", "), some(terms/2, "\\+ (true -> fail)", ", "), some(terms/3, "\\+ \\+ b(a)", ", "),
		some(terms/4, "c(A,B,C,D)", ", "), some(terms/6, "c(A,B,C,D), E = F", ", "), some(terms/12, "c(A,B,C,D), c(E,F,G,H), c(I,J,K,L)", ", "), some(terms/5, "f(A,B) = C", ", "), some(terms/7, "c([A|B],f(C),1,2)", ", "), some(terms, "b(a)", ", "),
		"c(" + wide(terms/4) + "," + wide(terms/4) + "," + wide(terms/4) + "," + wide(terms/4) + ")", "A = f(" + wide(terms/3) + ",g(" + wide(terms/3) + "),B," + wide(terms/3-6) + ")",
	}
	var all [][2]string
	facts := "b(_). c(_,_,_,_). "
	for _, body := range bodies {
		all = append(all, [2]string{facts + "p :- " + body + ".", "p."}, [2]string{facts, body + "."})
	}
	for _, head := range []string{"p(" + wide(terms) + ").", "p(a," + wide(terms-1) + ").", "p(" + wide(terms-1) + ",a).", "p([" + some(terms/2, "X", ",") + "]).", "p([" + some(terms/5, "f(X,1)", ",") + "|Y]).", "p(f(A,B,C,D),[" + some(terms/2-4, "A", ",") + "])."} {
		for _, question := range []string{"p(X).", "p(X,Y).", "p([1|X]).", "p(X,[1|Y]).", "p([2|X]) ; p([1|X],Y) ; true."} {
			all = append(all, [2]string{head + " p(0). p(0,0).", question})
		}
	}
	return append(all, [2]string{facts + "p(" + wide(10) + ",X,Y,X) :- b(" + wide(terms-36) + "), (X = Y -> \\+ \\+ Y = " + wide(11) + ", X \\= [] ; f(X,Z) == f(Y,Z)).", "p(X,Y,Z,U)."})
}

// TestFifty: P14: with fifty terms there is a code, and with more there may be: if not, that is what both tell, without a place.
func TestFifty(t *testing.T) {
	for _, terms := range []int{48, 49, 50, 51, 52, 60, 80, 100, 200} {
		for _, c := range counted(terms) {
			if len(c[0]) > api.MaxText || len(c[1]) > api.MaxText {
				continue
			}
			base := load(t, c[0])
			code, err := base.Code(c[1])
			query, asked := base.Ask(c[1], true)
			if err == nil && asked == nil {
				checkAlike(t, base, c[0], c[1], 4)
				continue
			}
			errno, place := api.Tell(err)
			if !errors.Is(err, api.ErrLimit) || !errors.Is(asked, api.ErrLimit) || errno != api.ErrLimit || place != -1 || code != "" || query != nil || terms <= 50 {
				t.Errorf("P14: %d terms: %s to %s: %v, %v", terms, short(c[1]), short(c[0]), err, asked)
			}
		}
	}
	if _, err := load(t, "").Code("X = " + wide(901) + "."); err != api.ErrLimit {
		t.Errorf("P14: %v", err)
	}
}

// TestLongAsked: P14: texts of 2,000 bytes without terms, with few terms in each clause, and with as many lines of code as can be.
func TestLongAsked(t *testing.T) {
	full := func(start, piece, end string) string {
		return start + strings.Repeat(piece, (api.MaxText-len(start)-len(end))/len(piece)) + end
	}
	not, twelve := strings.Repeat("\\+", 7)+"!,", "[A,B,C,D,E,F,G,H,I,J,K,L]=A,"
	for _, c := range [][2]string{
		{full("a :- ", "!,", "!."), full("", "a,", "a.")}, {full("a :- ", "true,", "true."), full("", "true,", "a.")}, {full("b. a :- ", "b,", "b."), full("", "(a;!),", "a.")}, {full("b. a :- ", "(b;b),", "!."), "a."},
		{full("a :- ", "(!;!;!;!;!;!),", "!."), full("", "(!;!;!;!;!;!),", "a.")}, {full("a :- ", not, "!."), full("", not, "!.")}, {full("a :- "+twelve, not, "!."), full(twelve+"a,", not, "!.")}, {full("a :- ", "(\\+\\+\\+\\+\\+!->\\+\\+\\+\\+\\+!),", "!."), full("", "(\\+\\+\\+\\+\\+!->\\+\\+\\+\\+\\+!),", "!.")},
		{full("", "a(1,[2,3,4,5],f(4,5,6,7),X) :- X = [5,6,7,8], !.\n", ""), "a(A,B,C,D)."}, {full("b. ", "a :- [1,1,1,1,1,1,1,1,1,1,1,1,1,1,1,1,1,1]=X, X=[_|_].\n", ""), "a."}, {full("a(X) :- ", "X=1,", "X=1."), "a(X)."}, {full("a :- ", "1=1,", "1=1."), "a, a."},
		{full("a([", "1,", "1])."), "a([X|_])."}, {full("a([[1]", ",[1]", "])."), "a([X|_])."}, {full("a([X", ",X", "])."), "a([X|_])."}, {some(40, "a(1).", "\n"), "a(X)."}, {some(40, "a.", " "), "a."}, {"p1" + each(". p", 2, 39) + ".", "p40."},
	} {
		checkAlike(t, load(t, c[0]), c[0], c[1], 5)
	}
}

// TestEdges: P14: twelve variables, eight deep, forty clauses.
func TestEdges(t *testing.T) {
	checkAnswers(t, "P14", "p(A,B,C,D) :- [E,F,G,H] = [A,B,C,D], [I,J,K,L] = [H,G,F,E], q(I,J,K,L), q(E,F,G,H). q(_,_,_,_).", "p(1,2,A,B), A = B.", "A = _1, B = _1; none")
	checkAnswers(t, "P14", "p(A,B,C,D) :- [E,F,G,H] = [A,B,C,D], [I,J,K,L] = [H,G,F,E], L = 1, K = I, J = f(E,F).", "p(A,B,C,D).", "A = 1, B = _1, C = f(1,_1), D = _1; none")
	checkAnswers(t, "P14", "a.", "[A,B,C,D,E,F] = [G,H,I,J,K,L], A = 1, L = f(B).", "A = 1, B = _1, C = _2, D = _3, E = _4, F = f(_1), G = 1, H = _1, I = _2, J = _3, K = _4, L = f(_1); none")
	checkAnswers(t, "P14", "p(f(f(f(f(f(f(f(X)))))))).", "p(f(f(f(f(f(Y)))))), Y = f(Z).", "Y = f(f(_1)), Z = f(_1); none")
	checkAnswers(t, "P14", "p([[[[[[[a|b]]]]]]]). p((((((((c)))))))).", "p(X).", "X = [[[[[[[a|b]]]]]]]; X = c; none")
	checkAnswers(t, "P14", "p(X) :- (((((X = 1 ; X = 2))))). p(X) :- \\+ \\+ \\+ \\+ \\+ \\+ X = 3, X = 4.", "p(X).", "X = 1; X = 2; X = 4; none")
	checkAnswers(t, "P14", "a.", "fail;fail;fail;X = 1;fail;fail;X = 2.", "X = 1; X = 2; none")
	checkAnswers(t, "P14", "a.", "fail->a;fail->a;fail->a;fail->a;fail->a;fail->a;X = 2->a.", "X = 2; none")
	checkAnswers(t, "P14", "p(1). "+some(38, "p(2).", " ")+" p(3).", "p(X), X > 1, !.", "X = 2; none")
	checkAnswers(t, "P14", "p(1). "+some(38, "p(2).", " ")+" p(3).", "p(X), X > 2.", "X = 3; none")
}

// TestMachineMuch: P14: what must be told by walking is told by the machine, and by the code: at the ends of many calls, which walking does not count, with fifty terms in a goal or in heads, and of variables with `_`, which only a code tells.
func TestMachineMuch(t *testing.T) {
	facts := strings.Repeat("b. ", 37)
	for _, c := range []struct {
		program, question string
		many              int
	}{
		{"d(0) :- b, b, b. d(N) :- M is N-1, d(M). " + facts, "d(1000).", 9000}, {"d(N) :- (N = 0, b, b, b ; M is N-1, d(M)). " + facts, "d(900).", 9000}, {"d(N) :- (N =:= 0 -> b, b, b ; M is N-1, (d(M) ; fail)). " + facts, "d(800).", 8000}, {"d(N) :- (((N =:= 0 -> b, b ; c(N)), ! ; fail) ; c(N)). c(N) :- M is N-1, d(M). " + facts, "d(600).", 3},
		{"n(_). n(N) :- N > 0, M is N-1, n(M).", "n(1300).", 1300}, {"n(0). n(N) :- nonvar(" + wide(43) + "), M is N-1, n(M).", "n(1500).", 2}, {"n(0). n(N) :- \\+ a(" + wide(43) + "), M is N-1, n(M). a(0).", "n(1100).", 2}, {"n(0). n(N) :- a(_,_), M is N-1, n(M). a(" + wide(24) + "," + wide(26) + ").", "n(400).", 2}, {"n(0). n(N) :- a(1), M is N-1, n(M). a(" + wide(50) + "). a(1).", "n(1000).", 2}, {"n(0). n(N) :- [A,B,C,D,E,F,G,H] = [_|_], M is N-1, n(M).", "n(500).", 2}, {"p :- " + some(11, "b", ", ") + ", fail. p. b :- (true -> true). b :- \\+ fail.", "p.", 2},
	} {
		checkAlike(t, load(t, c.program), c.program, c.question, c.many)
	}
	base := load(t, "d(0,a). d(N,f(T,T)) :- N > 0, M is N-1, d(M,T). ")
	checkTold(t, "P14", askBy(t, base, "d(16,_X).", true), "true")
	if got := told(t, run(t, codeOf(t, base, "d(16,_X)."))); got != doubled(16) {
		t.Errorf("P14: %d bytes of d(16,_X): %s", len(got), got[:min(len(got), 20)])
	}
}

// TestAllSideBySide: P1: queries by walking, by the machine and of codes, of one program, know nothing of one another.
func TestAllSideBySide(t *testing.T) {
	base := load(t, lists)
	question := "app(X,Y,[1,2,Z])."
	want := strings.Split("X = [], Y = [1,2,_1], Z = _1; X = [1], Y = [2,_1], Z = _1; X = [1,2], Y = [_1], Z = _1; X = [1,2,_1], Y = [], Z = _1; none; none; none; none", "; ")
	var queries []*horn.Query
	for range 2 {
		queries = append(queries, askBy(t, base, question, true), ask(t, base, question), run(t, codeOf(t, base, question)))
	}
	stuck := askBy(t, base, "app(X,X,X), fail.", true)
	done := make([]int, len(queries))
	for turn := range 24 {
		for i, query := range queries {
			if (turn+i)%3 != 0 {
				continue
			}
			one := want[done[i]]
			if i%3 == 2 {
				one = bare(one)
			}
			if got := told(t, query); got != one {
				t.Fatalf("P1: question %d, answer %d: got %s, want %s", i, done[i], got, one)
			}
			done[i]++
		}
		told(t, stuck)
	}
}

// TestUnmadeMachine: P1: no call panics, not even of what no call made.
func TestUnmadeMachine(t *testing.T) {
	for _, base := range []*horn.Base{nil, {}} {
		checkTold(t, "P1", askBy(t, base, "X = 1 ; a.", true), "X = 1; proc")
		checkTold(t, "P1", run(t, codeOf(t, base, "X = 1 ; a.")), "1; proc")
	}
}

// maker makes programs and questions by a fixed rule.
type maker struct {
	state uint32
}

func (m *maker) pick(n int) int {
	m.state = m.state*1664525 + 1013904223
	return int(m.state>>8) % n
}

func (m *maker) of(texts ...string) string { return texts[m.pick(len(texts))] }

func (m *maker) term() string {
	return m.of("X", "Y", "Z", "1", "2", "a", "[]", "f("+m.of("X", "1", "Y", "f(Z)")+")", "["+m.of("X", "Y", "1")+"|"+m.of("Y", "Z", "[]", "[2]")+"]", "X+1", "_")
}

func (m *maker) goal(depth int) string {
	switch n := m.pick(20); {
	case n < 4 && depth > 0:
		return "(" + m.body(depth-1) + ")"
	case n < 6 && depth > 0:
		return "\\+ " + m.goal(depth-1)
	case n < 9:
		return "b(" + m.term() + ")"
	case n < 11:
		return "m(" + m.term() + "," + m.of("[1,2,a]", "[X,Y]", "Z", "[f(Y),1]") + ")"
	case n < 13:
		return m.of("t", "u") + "(" + m.term() + "," + m.term() + ")"
	case n < 16:
		return m.term() + m.of(" = ", " = ", " \\= ", " == ") + m.term()
	}
	return m.of("!", "!", "true", "fail", "X is 1+1", "X > 1", "var(Y)", "integer(X)", "nonvar(Z)", "c", "v(X)")
}

func (m *maker) row(depth int) string {
	goals := m.goal(depth)
	for range m.pick(3) {
		goals += ", " + m.goal(depth)
	}
	return goals
}

func (m *maker) body(depth int) string {
	switch n := m.pick(6); {
	case n < 2 && depth > 0:
		return m.row(depth) + " ; " + m.body(depth-1)
	case n == 2:
		return m.row(depth) + " -> " + m.row(depth)
	case n == 3 && depth > 0:
		return m.row(depth) + " -> " + m.row(depth) + " ; " + m.body(depth-1)
	}
	return m.row(depth)
}

func (m *maker) program() string {
	program := "b(1). b(2). b(f(a)). m(X,[X|_]). m(X,[_|T]) :- m(X,T). c. c. "
	for _, head := range []string{"t", "t", "u", "u", "u"} {
		program += head + "(" + m.term() + "," + m.term() + ")" + m.of("", " :- "+m.body(2), " :- "+m.body(2)) + ". "
	}
	return program
}

// TestAskSweep: P14: of many programs and questions: the same answers and the same end by walking, by the machine and by the code.
func TestAskSweep(t *testing.T) {
	m, answers := &maker{1}, 0
	for range 1500 {
		program := m.program()
		base := load(t, program)
		for range 3 {
			answers += len(checkAlike(t, base, program, m.body(2)+".", 8)) - 1
		}
	}
	if answers < 2000 {
		t.Errorf("only %s answers", strconv.Itoa(answers))
	}
}
