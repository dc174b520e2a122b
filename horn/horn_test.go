package horn_test

import (
	"errors"
	"strings"
	"testing"

	"horn/api"
	"horn/horn"
)

// fault is what a call has to answer of a text: an error and its place.
type fault struct {
	err   api.Errno
	place int
}

var fine = fault{api.OK, -1}

func syntaxAt(place int) fault { return fault{api.ErrSyntax, place} }
func nameAt(place int) fault   { return fault{api.ErrName, place} }
func limitAt(place int) fault  { return fault{api.ErrLimit, place} }

// check holds an error against what it has to be: nil, or an *api.At that is just that one of the errors.
func check(t *testing.T, call, text string, err error, want fault) {
	t.Helper()
	errno, place := api.Tell(err)
	if (fault{errno, place}) != want {
		t.Errorf("%s(%q): %v, want %v", call, text, err, want)
	}
	var at *api.At
	if err != nil && !errors.As(err, &at) {
		t.Errorf("%s(%q): %v has no place", call, text, err)
	}
	for e := api.OK; err != nil && e <= api.ErrFuel; e++ {
		if errors.Is(err, e) != (e == want.err) {
			t.Errorf("%s(%q): %v is %d", call, text, err, e)
		}
	}
}

func checkRead(t *testing.T, text string, want fault) {
	t.Helper()
	form, err := horn.Read(text)
	check(t, "Read", text, err, want)
	if (form == "") != (err != nil) {
		t.Errorf("Read(%q): %q with %v", text, form, err)
	}
}

func checkLoad(t *testing.T, text string, want fault) {
	t.Helper()
	base, err := horn.Load(text)
	check(t, "Load", text, err, want)
	if (base == nil) != (err != nil) {
		t.Errorf("Load(%q): %v with %v", text, base, err)
	}
}

func checkQuestion(t *testing.T, text string, want fault) {
	t.Helper()
	base, err := horn.Load("a.")
	if err != nil {
		t.Fatal(err)
	}
	for _, machine := range []bool{false, true} {
		query, err := base.Ask(text, machine)
		check(t, "Ask", text, err, want)
		if (query == nil) != (err != nil) {
			t.Errorf("Ask(%q): %v with %v", text, query, err)
		}
	}
	code, err := base.Code(text)
	check(t, "Code", text, err, want)
	if (code == "") != (err != nil) {
		t.Errorf("Code(%q): %q with %v", text, code, err)
	}
}

// TestLong: P2: 2,000 bytes are a text, whatever they are, and one more is none.
func TestLong(t *testing.T) {
	padded := func(text string, length int) string { return text + strings.Repeat("\n", length-len(text)) }
	checkRead(t, padded("a", 2000), fine)
	checkLoad(t, padded("a.", 2000), fine)
	checkQuestion(t, padded("a.", 2000), fine)
	checkLoad(t, padded("", 2000), fine)
	checkRead(t, padded("", 2000), syntaxAt(2000))
	long := fault{api.ErrLong, 0}
	for _, text := range []string{"a", "a.", "", "@", "abcdefghi", "true.", "f(a,b,c,d,e)"} {
		checkRead(t, padded(text, 2001), long)
		checkLoad(t, padded(text, 2001), long)
		checkQuestion(t, padded(text, 2001), long)
	}
	checkRead(t, strings.Repeat("(", 100000), long)
}

// TestTokens: P2: the first place at which no token can stand, ahead of every other fault.
func TestTokens(t *testing.T) {
	for text, want := range map[string]fault{
		"abcdefgh": fine, "abcdefghi": syntaxAt(0), "f(abcdefghi)": syntaxAt(2), "Abcdefgh": fine, "Abcdefghi": syntaxAt(0), "_1234567": fine, "_12345678": syntaxAt(0),
		"999999999": fine, "1000000000": syntaxAt(0), "0": fine, "00": syntaxAt(0), "a-01": syntaxAt(2), "- 0": fine, "1a": syntaxAt(0), "1X": syntaxAt(0),
		"a.b": syntaxAt(1), "a\t": syntaxAt(1), "a\r": syntaxAt(1), "é": syntaxAt(0), "fé": syntaxAt(1), "\x00": syntaxAt(0), "a\xff": syntaxAt(1), "a/b": syntaxAt(1), "a:b": syntaxAt(1), "\\": syntaxAt(0), "\"a\"": syntaxAt(0),
		") @": syntaxAt(2), "f(a,b,c,d,e) abcdefghi": syntaxAt(13), "((((((((((@": syntaxAt(10), "[A,B,C,D,E,F,G,H,I,J,K,L,M,&]": syntaxAt(27), "@@": syntaxAt(0),
	} {
		checkRead(t, text, want)
	}
	checkLoad(t, "true. a :- X. mod. 01.", syntaxAt(19))
	checkLoad(t, strings.Repeat("a.\n", 41)+"$", syntaxAt(123))
	checkQuestion(t, "a. b #", syntaxAt(5))
}

// TestTermFaults: P3: a token that cannot stand where it stands.
func TestTermFaults(t *testing.T) {
	for text, want := range map[string]fault{
		"": syntaxAt(0), "  ": syntaxAt(2), "a ": fine, "a b": syntaxAt(2), "a(": syntaxAt(2), "a( ": syntaxAt(3), "a (b)": fine, "f(a": syntaxAt(3), "f(a,": syntaxAt(4), "f(,a)": syntaxAt(2), "f(a b)": syntaxAt(4), "f(a)b": syntaxAt(4), "f(a)(b)": syntaxAt(4), "f)": syntaxAt(1), "f(a]": syntaxAt(3),
		"X(a)": syntaxAt(1), "1(a)": syntaxAt(1), "()": syntaxAt(1), "(a": syntaxAt(2), "(a,b)": syntaxAt(2), "(a]": syntaxAt(2), "a)": syntaxAt(1),
		"[": syntaxAt(1), "]": syntaxAt(0), "[a": syntaxAt(2), "[a,": syntaxAt(3), "[a|": syntaxAt(3), "[a|]": syntaxAt(3), "[|a]": syntaxAt(1), "[a|b|c]": syntaxAt(4), "[a|b,c]": syntaxAt(4), "[a)": syntaxAt(2), "[](a)": syntaxAt(2),
		"-": syntaxAt(1), "-a": syntaxAt(1), "-X": syntaxAt(1), "-(1)": syntaxAt(1), "--1": syntaxAt(1), "+1": syntaxAt(0), "*1": syntaxAt(0), "1+": syntaxAt(2), "1++1": syntaxAt(2), "1+-1": fine, "1---1": syntaxAt(3), "1*/1": syntaxAt(2), "1 mod": syntaxAt(5), "mod mod": syntaxAt(7), "mod mod mod mod": syntaxAt(15), "mod*mod": fine, "a mod(1,2)": syntaxAt(7), "1 2": syntaxAt(2),
		"a=b": syntaxAt(1), "a is b": syntaxAt(2), "f(a<b)": syntaxAt(3), "is(a)": fine, "f(is,mod)": fine, "!": syntaxAt(0), "\\+a": syntaxAt(0), "a,b": syntaxAt(1), "a;b": syntaxAt(1), "a->b": syntaxAt(1), "a:-b": syntaxAt(1), "a.": syntaxAt(1), ".": syntaxAt(0), "|": syntaxAt(0),
	} {
		checkRead(t, text, want)
	}
}

// TestTermLimits: P3: a thirteenth variable, a fifth argument, nine deep.
func TestTermLimits(t *testing.T) {
	for text, want := range map[string]fault{
		"[A,B,C,D,E,F,G,H,I,J,K,L]": fine, "[A,B,C,D,E,F,G,H,I,J,K,L,M]": limitAt(25), "[A,B,C,D,E,F,G,H,I,J,K,L,A,L]": fine, "[_,_,_,_,_,_,_,_,_,_,_,_]": fine, "[_,_,_,_,_,_,_,_,_,_,_,_,_]": limitAt(25), "[A,B,C,D,E,F,G,H,I,J,K,_,A,_": limitAt(27), "[A,B,C,D,E,F,G,H,I,J,K,L|M)": limitAt(25),
		"f(a,b,c,d)": fine, "f(a,b,c,d,e)": limitAt(0), "1+ f(a,b,c,d,e)": limitAt(3), "f(a,b,c,d,e": limitAt(0), "f(a,b,c,d,e,": syntaxAt(12), "f(a,b,c,d,e,f,g)": limitAt(0), "f(a,b,c,d,e,)": syntaxAt(12), "f(a,b,c,d,e]": limitAt(0), "f(a,b,c,d,g(a,b,c,d,e))": limitAt(10), "f(a,b,c,d e)": syntaxAt(10), "[a,b,c,d,e,f]": fine,
		"f(f(f(f(f(f(f(a)))))))": fine, "f(f(f(f(f(f(f(f(a))))))))": limitAt(16), "f(f(f(f(f(f(f(f))))))) +": syntaxAt(24),
		"(((((((a)))))))": fine, "((((((((a))))))))": limitAt(8), "[[[[[[[[]]]]]]]]": fine, "[[[[[[[[a]]]]]]]]": limitAt(8), "[[[[[[[a|b]]]]]]]": fine, "[[[[[[[a|[b]]]]]]]]": limitAt(10), "f([(f([(f(-1))]))])": fine, "f([(f([(f([-1]))])])": limitAt(11),
		"((((((((": limitAt(8), "(((((((( )": limitAt(9), "[[[[[[[[,": limitAt(8), "f(f(f(f(f(f(f(f()": limitAt(16), "(((((((": syntaxAt(7), "(((((((a+(b": limitAt(10), "(((((((1+1+1*1*1+1)))))))": fine,
	} {
		checkRead(t, text, want)
	}
	checkRead(t, strings.Repeat("1+", 999)+"1", fine)
	checkRead(t, "["+strings.Repeat("a,", 998)+"a]", fine)
}

// TestGoals: P3: what may be a goal, and what a goal of the language has.
func TestGoals(t *testing.T) {
	for text, want := range map[string]fault{
		"X.": syntaxAt(0), "_.": syntaxAt(0), "1.": syntaxAt(0), "-1.": syntaxAt(0), "[].": syntaxAt(0), "[a].": syntaxAt(0), "a+b.": syntaxAt(0), "a mod b.": syntaxAt(0), "mod(1,2).": syntaxAt(0), "mod(1).": fine, "mod.": fine, "mod(1,2,3).": fine, "a, X.": syntaxAt(3), "a, b*c, X.": syntaxAt(3), "\\+ 1.": syntaxAt(3), "(a ; X).": syntaxAt(5), "a -> X.": syntaxAt(5), "X b.": syntaxAt(0), "1+2": syntaxAt(0),
		"(X) = 1.": syntaxAt(1), "(a) = 1.": syntaxAt(4), "(a)+b = 1.": syntaxAt(3), "1*(X) = 1.": fine, "X = (1).": fine, "X = (a,b).": syntaxAt(6), "X = Y = Z.": syntaxAt(6), "X = .": syntaxAt(4), "= X.": syntaxAt(0), "X = \\+ a.": syntaxAt(4), "X = !.": syntaxAt(4),
		"true.": fine, "true(1).": nameAt(0), "a, fail(1).": nameAt(3), "\\+ var.": nameAt(3), "nonvar(1,2).": nameAt(0), "atom.": nameAt(0), "integer(1,2) b.": nameAt(0), "is.": nameAt(0), "is(1).": nameAt(0), "is(1,2).": fine, "is(1,2,3).": nameAt(0), "is is.": syntaxAt(5), "is is is.": fine, "true(1) = 1.": fine, "true(1) = .": syntaxAt(10), "true(1,2,3,4,5).": limitAt(0), "true(": syntaxAt(5), "true(1)": nameAt(0), "var(X), X.": syntaxAt(8), "X is 1, true(X), X.": nameAt(8),
	} {
		checkQuestion(t, text, want)
	}
}

// TestBodies: P3: the tokens between goals.
func TestBodies(t *testing.T) {
	for text, want := range map[string]fault{
		"a, b; c -> d; e.": fine, "a->b.": fine, "a -> b -> c.": syntaxAt(7), "a -> b ; c -> d.": fine, "a ; b -> c -> d.": syntaxAt(11), "(a -> b) -> c.": fine, "a, .": syntaxAt(3), "a ; .": syntaxAt(4), "a -> .": syntaxAt(5), ", a.": syntaxAt(0), "; a.": syntaxAt(0), "-> a.": syntaxAt(0), "a ,, b.": syntaxAt(3), "a ;; b.": syntaxAt(3), "a b.": syntaxAt(2), "a ! .": syntaxAt(2), "!.": fine, "! !.": syntaxAt(2), "!, !.": fine, "!(a).": syntaxAt(1), "\\+ .": syntaxAt(3), "\\+ !.": fine, "\\+ \\+ a.": fine, "\\+ (a ; b), c.": fine, "().": syntaxAt(1), "(a.": syntaxAt(2), "(a ; b.": syntaxAt(6), "a).": syntaxAt(1), "a | b.": syntaxAt(2), "a :- b.": syntaxAt(2),
	} {
		checkQuestion(t, text, want)
	}
}

// TestGoalLimits: P3: goals, bodies behind `;` and the terms in them, nine deep; variables of a question.
func TestGoalLimits(t *testing.T) {
	for text, want := range map[string]fault{
		"((((((a)))))).": fine, "(((((((a))))))).": limitAt(7), "((((((((a)))))))).": limitAt(8), "(((((((!))))))).": fine, "((((((((!)))))))).": limitAt(8), "((((((((": limitAt(8), "(((((((.": limitAt(7), "(((((((": limitAt(7),
		"\\+\\+\\+\\+\\+\\+a.": fine, "\\+\\+\\+\\+\\+\\+\\+a.": limitAt(14), "\\+\\+\\+\\+\\+\\+\\+!.": fine, "\\+\\+\\+\\+\\+\\+\\+\\+!.": limitAt(16), "\\+\\+\\+\\+\\+\\+\\+\\+,": limitAt(16),
		"a;a;a;a;a;a;a.": fine, "a;a;a;a;a;a;a;a.": limitAt(14), "!;!;!;!;!;!;!;!.": fine, "!;!;!;!;!;!;!;!;!.": limitAt(16), "!;!;!;!;!;!;!;!; ;": limitAt(17), "!;!;!;!;!;!;!;!;": limitAt(16), "a->a;a->a;a->a;a->a;a->a;a->a;a->a.": fine, "a->a;a->a;a->a;a->a;a->a;a->a;a->a;a.": limitAt(35), "(a;(a;(a;a))).": fine, "(!;(!;(!;(!;!)))).": limitAt(12), "(!;(!;(!;!;!))).": fine,
		"a(f(f(f(f(f(b)))))).": fine, "a(f(f(f(f(f(f(b))))))).": limitAt(14), "X = f(f(f(f(f(f(b)))))).": fine, "X = f(f(f(f(f(f(f(b))))))).": limitAt(18), "a,a,a,a,a,a,a,a,a,a.": fine,
		"f(A,B,C,D), f(E,F,G,H), f(I,J,K,L), A = L.": fine, "f(A,B,C,D), f(E,F,G,H), f(I,J,K,L), A = M.": limitAt(40), "f(_,_,_,_), f(_,_,_,_), f(_,_,_,_), _.": limitAt(36),
		"a(1,2,3,4).": fine, "b, a(1,2,3,4,5).": limitAt(3),
	} {
		checkQuestion(t, text, want)
	}
}

// TestQuestions: P5: a body, a point, and nothing behind it.
func TestQuestions(t *testing.T) {
	for text, want := range map[string]fault{
		"a.": fine, "a . ": fine, "a.\n": fine, "": syntaxAt(0), ".": syntaxAt(0), "a": syntaxAt(1), "a ": syntaxAt(2), "a. b.": syntaxAt(3), "a. .": syntaxAt(3), "a.. ": syntaxAt(1), "a :- b.": syntaxAt(2), ":- a.": syntaxAt(0), "b(X), c.": fine,
	} {
		checkQuestion(t, text, want)
	}
}

// TestForms: P4.
func TestForms(t *testing.T) {
	for text, want := range map[string]string{
		"a": "a", "\n a \n": "a", "- 7": "-7", "-0": "0", "X": "_1", "_": "_1", "f ( a , B )": "f(a,_1)", "[ ]": "[]", "[a,b|[]]": "[a,b]", "[a|[b|[c|D]]]": "[a,b,c|_1]", "[a|f]": "[a|f]", "[[]|[]]": "[[]]", "[X|X+1]": "[_1|_1+1]",
		"1+2+3": "1+2+3", "1+(2+3)": "1+(2+3)", "1-2+3": "1-2+3", "1-(2+3)": "1-(2+3)", "1+2*3": "1+2*3", "(1+2)*3": "(1+2)*3", "1*(2+3)": "1*(2+3)", "(1*2)+3": "1*2+3", "1+(2*3)": "1+2*3", "1*2//3": "1*2//3", "1*(2//3)": "1*(2//3)", "1 mod 2 mod 3": "1 mod 2 mod 3", "1 mod(2 mod 3)": "1 mod (2 mod 3)", "(1-2)mod 3": "(1-2) mod 3", "mod(1-2,3)": "(1-2) mod 3", "mod(a)": "mod(a)", "mod(a,b,c)": "mod(a,b,c)", "mod mod mod": "mod mod mod", "mod+mod": "mod+mod", "1*mod(2,3)": "1*(2 mod 3)",
		"1 - -1": "1--1", "1-(-1)": "1--1", "(-1)*2": "-1*2", "a//-1": "a//-1", "f((1+2),((3)))": "f(1+2,3)", "[(1+2)*3,(4)]": "[(1+2)*3,4]", "[1]+f(X)*Y": "[1]+f(_1)*_2",
		"[B,A,_,_B,_,A]": "[_1,_2,_3,_4,_5,_2]", "f(_2,_1)": "f(_1,_2)", "[A,B,C,D,E,F,G,H,I,J,K,L]": "[_1,_2,_3,_4,_5,_6,_7,_8,_9,_10,_11,_12]", "is": "is", "true(is,X)": "true(is,_1)",
	} {
		got, err := horn.Read(text)
		if got != want || err != nil {
			t.Errorf("P4: Read(%q) = %q, %v, want %q", text, got, err, want)
		}
	}
}

// TestClauses: P5: heads, and the first fault of a program.
func TestClauses(t *testing.T) {
	for text, want := range map[string]fault{
		"": fine, "\n \n": fine, "a.": fine, "a . b .": fine, "a(X,1,[],f(Y)).": fine, "a:-b.": fine, "a(X) :- b(X) ; !.": fine, "a. a(1). a(1,2). a.": fine,
		"a": syntaxAt(1), "a b.": syntaxAt(2), "a(X": syntaxAt(3), "a(X) ": syntaxAt(5), "a().": syntaxAt(2), "a(,).": syntaxAt(2), "a :-": syntaxAt(4), "a :- .": syntaxAt(5), "a :- b": syntaxAt(6), "a :- b. c": syntaxAt(9), "a, b.": syntaxAt(1), "a; b.": syntaxAt(1), "a -> b.": syntaxAt(2), "a :- b :- c.": syntaxAt(7), ":- a.": syntaxAt(0), ".": syntaxAt(0), "a. . b.": syntaxAt(3), "X.": syntaxAt(0), "X :- a.": syntaxAt(0), "1.": syntaxAt(0), "-1.": syntaxAt(0), "[].": syntaxAt(0), "[a].": syntaxAt(0), "(a).": syntaxAt(0), "!.": syntaxAt(0), "\\+ a.": syntaxAt(0), "a = b.": syntaxAt(2), "a + b.": syntaxAt(2), "a mod b.": syntaxAt(2), "a is b.": syntaxAt(2), "a(1)(2).": syntaxAt(4),
		"true.": nameAt(0), "fail.": nameAt(0), "is.": nameAt(0), "var(X).": nameAt(0), "nonvar.": nameAt(0), "atom(1,2).": nameAt(0), "integer(a).": nameAt(0), "mod.": nameAt(0), "mod(1).": nameAt(0), "mod(1,2).": nameAt(0), "is(1,2,3).": nameAt(0), "a. true :- X.": nameAt(3), "true": nameAt(0), "true X": nameAt(0), "mod mod mod.": nameAt(0), "true(": syntaxAt(5), "true(X": syntaxAt(6), "true(X,).": syntaxAt(7), "true(f(1,2,3,4,5)).": limitAt(5), "a :- true(1), X.": nameAt(5), "a :- X, true(1).": syntaxAt(5),
		"a(1,2,3,4).": fine, "a(1,2,3,4,5).": limitAt(0), "b. a(1,2,3,4,5": limitAt(3), "a(1,2,3,4,5,).": syntaxAt(12), "a :- b(1,2,3,4,5).": limitAt(5),
	} {
		checkLoad(t, text, want)
	}
}

// TestClauseLimits: P5, P3: forty clauses, twelve variables of each, eight deep.
func TestClauseLimits(t *testing.T) {
	forty := strings.Repeat("a.\n", 40)
	checkLoad(t, forty, fine)
	checkLoad(t, forty+"  \n", fine)
	for _, behind := range []string{"a.", ")", ".", "a", "X", "true.", ":- a."} {
		checkLoad(t, forty+" "+behind, limitAt(121))
	}
	checkLoad(t, strings.Repeat("a.\n", 39)+"true.\nb.\nc.", nameAt(117))

	twelve := "a([A,B,C,D,E,F]) :- b([G,H,I,J,K,L])"
	checkLoad(t, twelve+". "+twelve+".", fine)
	checkLoad(t, twelve+", c(A,L).", fine)
	checkLoad(t, twelve+", c(A,M).", limitAt(42))
	checkLoad(t, twelve+", _ = A.", limitAt(38))

	checkLoad(t, "a :- (((((((b))))))).", limitAt(12))
}

// TestHeadDepth: P3, P5: a head is neither a prim nor a goal, so its arguments stand one deep; its body's goals do, too.
func TestHeadDepth(t *testing.T) {
	for text, want := range map[string]fault{
		"a(f(f(f(f(f(f(f(b)))))))).": fine, "a(f(f(f(f(f(f(f(f(b))))))))).": limitAt(18), "a(b,f(f(f(f(f(f(f(f(B)": limitAt(20),
		"a((((((((b)))))))).": fine, "a(((((((((b))))))))).": limitAt(10), "a((((((((": syntaxAt(9), "a(((((((((": limitAt(10), "a(((((((( )": syntaxAt(10), "a((((((((( )": limitAt(11),
		"a([[[[[[[[]]]]]]]]).": fine, "a([[[[[[[[[]]]]]]]]]).": limitAt(10), "a([[[[[[[b|c]]]]]]]).": fine, "a([[[[[[[[b|c]]]]]]]]).": limitAt(10), "a(1+(1+(1+(1+(1+(1+(1+(1)))))))).": fine, "a(1+(1+(1+(1+(1+(1+(1+(1+(1))))))))).": limitAt(26),
		"b. a((((((((b)))))))).": fine, "b. a(((((((((b))))))))).": limitAt(13), "true((((((((b)))))))).": nameAt(0), "true(((((((((b))))))))).": limitAt(13), "a((((((((f(b))))))))).": limitAt(11), "a((((((((f)))))))) :- X.": syntaxAt(22),
		"a(f(f(f(f(f(f(f(b)))))))) :- ((((((b)))))).": fine, "a(f(f(f(f(f(f(f(b)))))))) :- (((((((b))))))).": limitAt(36), "a(f(f(f(f(f(f(f(X)))))))) :- b(f(f(f(f(f(X)))))).": fine, "a(f(f(f(f(f(f(f(X)))))))) :- b(f(f(f(f(f(f(X))))))).": limitAt(43),
	} {
		checkLoad(t, text, want)
	}
}
