package syntax

import (
	"errors"
	"strconv"
	"strings"
	"testing"

	"horn/api"
	"horn/clause"
	"horn/term"
)

// shown writes tokens with their places, so that a test can tell them apart.
func shown(tokens []token) string {
	kinds := [...]string{"n", "v", "d", "s", "e"}
	var parts []string
	for _, t := range tokens {
		parts = append(parts, kinds[t.kind]+t.text+"@"+strconv.Itoa(t.place))
	}
	return strings.Join(parts, " ")
}

// TestSplit: P2.
func TestSplit(t *testing.T) {
	for text, want := range map[string]string{
		"":                    "e@0",
		" \n ":                "e@3",
		"a":                   "na@0 e@1",
		" aB_9 \n_x X1 0 10":  "naB_9@1 v_x@7 vX1@10 d0@13 d10@15 e@17",
		"a.":                  "na@0 s.@1 e@2",
		". .\n.":              "s.@0 s.@2 s.@4 e@5",
		"a(b,C)":              "na@0 s(@1 nb@2 s,@3 vC@4 s)@5 e@6",
		"=:==:==":             "s=:=@0 s=:=@3 s=@6 e@7",
		"====<=":              "s==@0 s==@2 s<@4 s=@5 e@6",
		"=<=>=>":              "s=<@0 s=@2 s>=@3 s>@5 e@6",
		"\\+\\=\\==":          "s\\+@0 s\\=@2 s\\=@4 s=@6 e@7",
		":-->-":               "s:-@0 s->@2 s-@4 e@5",
		"//*|;![]<+":          "s//@0 s*@2 s|@3 s;@4 s!@5 s[@6 s]@7 s<@8 s+@9 e@10",
		"abcdefgh ABCDEFGH":   "nabcdefgh@0 vABCDEFGH@9 e@17",
		"999999999 000":       "fault 10",
		"999999999 _":         "d999999999@0 v_@10 e@11",
		"a abcdefghi":         "fault 2",
		"a _bcdefghi":         "fault 2",
		"1000000000":          "fault 0",
		"a 00":                "fault 2",
		"12a":                 "fault 0",
		"1_":                  "fault 0",
		"..":                  "fault 0",
		"a.)":                 "fault 1",
		"a.\t":                "fault 1",
		"a\r\n":               "fault 1",
		"a/b":                 "fault 1",
		"a///b":               "fault 3",
		"a:b":                 "fault 1",
		"a=:b":                "fault 2",
		"a\\b":                "fault 1",
		"a\x00":               "fault 1",
		"a\xff":               "fault 1",
		"aé":                  "fault 1",
		"@ abcdefghi":         "fault 0",
		"abcdefghi @":         "fault 0",
		"a{":                  "fault 1",
		"a % b":               "fault 2",
		"'a'":                 "fault 0",
		"abcdefgh.abcdefgh 1": "fault 8",
	} {
		got := "fault "
		tokens, err := reading(text, func(r *reader) []token { r.next = len(r.tokens) - 1; return r.tokens })
		if errno, place := api.Tell(err); errno == api.ErrSyntax {
			got += strconv.Itoa(place)
		} else {
			got = shown(tokens)
		}
		if got != want {
			t.Errorf("P2: %q: got %s, want %s", text, got, want)
		}
	}
}

// goalForm writes a goal with all its brackets.
func goalForm(g clause.Goal) string {
	switch x := g.(type) {
	case clause.Cut:
		return "!"
	case clause.Not:
		return "not{" + goalForm(x.Goal) + "}"
	case clause.All:
		var parts []string
		for _, one := range x {
			parts = append(parts, goalForm(one))
		}
		return "all{" + strings.Join(parts, " ") + "}"
	case clause.Either:
		return "either{" + goalForm(x.First) + " " + goalForm(x.Second) + "}"
	case clause.Choice:
		return "if{" + goalForm(x.If) + " " + goalForm(x.Then) + " " + goalForm(x.Else) + "}"
	case clause.Call:
		return x.Name + "/" + term.Form(term.List(x.Args, term.Empty))
	}
	return "no goal"
}

// TestQuestion: P3's bodies, as P5's questions have them.
func TestQuestion(t *testing.T) {
	for text, want := range map[string]string{
		"a.":                             "a/[]",
		"a(X,Y,X) .":                     "a/[_1,_2,_1]",
		"!.":                             "!",
		"(a).":                           "a/[]",
		"a,b,c.":                         "all{a/[] b/[] c/[]}",
		"(a,b),c.":                       "all{all{a/[] b/[]} c/[]}",
		"a;b;c.":                         "either{a/[] either{b/[] c/[]}}",
		"a,b;c,d.":                       "either{all{a/[] b/[]} all{c/[] d/[]}}",
		"a->b.":                          "if{a/[] b/[] fail/[]}",
		"a->b;c.":                        "if{a/[] b/[] c/[]}",
		"a,b->c,d;e,f.":                  "if{all{a/[] b/[]} all{c/[] d/[]} all{e/[] f/[]}}",
		"a->b;c->d;e.":                   "if{a/[] b/[] if{c/[] d/[] e/[]}}",
		"a;b->c;d.":                      "either{a/[] if{b/[] c/[] d/[]}}",
		"(a->b),c.":                      "all{if{a/[] b/[] fail/[]} c/[]}",
		"(a->b)->c.":                     "if{if{a/[] b/[] fail/[]} c/[] fail/[]}",
		"\\+a,b.":                        "all{not{a/[]} b/[]}",
		"\\+(a,b).":                      "not{all{a/[] b/[]}}",
		"\\+ \\+ !.":                     "not{not{!}}",
		"\\+X=1.":                        "not{=/[_1,1]}",
		"X=f(Y).":                        "=/[_1,f(_2)]",
		"1+2\\=3*4.":                     "\\=/[1+2,3*4]",
		"a==b.":                          "==/[a,b]",
		"X is 1 mod 2.":                  "is/[_1,1 mod 2]",
		"is(X,1).":                       "is/[_1,1]",
		"is is is.":                      "is/[is,is]",
		"mod is mod.":                    "is/[mod,mod]",
		"a<b,a>b,a=<b,a>=b,a=:=b.":       "all{</[a,b] >/[a,b] =</[a,b] >=/[a,b] =:=/[a,b]}",
		"[]=[a|X].":                      "=/[[],[a|_1]]",
		"-1= -2.":                        "=/[-1,-2]",
		"true(1)=var.":                   "=/[true(1),var]",
		"true,fail,var(X),nonvar(a).":    "all{true/[] fail/[] var/[_1] nonvar/[a]}",
		"atom(a),integer(1),mod,mod(1).": "all{atom/[a] integer/[1] mod/[] mod/[1]}",
		"mod(1,2,3).":                    "mod/[1,2,3]",
	} {
		q, err := Question(text)
		if err != nil {
			t.Errorf("P3: %q: %v", text, err)
			continue
		}
		if got := goalForm(q.Body); got != want {
			t.Errorf("P3: %q: got %s, want %s", text, got, want)
		}
	}
}

func namesOf(vars []*term.Var) string {
	var names []string
	for _, v := range vars {
		names = append(names, v.Name)
	}
	return strings.Join(names, " ")
}

// TestVariables: those of one clause are its own, in the order in which they stand there.
func TestVariables(t *testing.T) {
	q, err := Question("f(B,_,A), A = _B, _ = B.")
	if err != nil || namesOf(q.Vars) != "B _ A _B _" {
		t.Errorf("P3: %v %v", q, err)
	}
	clauses, err := Program("a(X,Y) :- b(Y,Z). c. d(X).")
	if err != nil || len(clauses) != 3 {
		t.Fatalf("P5: %v %v", clauses, err)
	}
	for i, want := range []string{"X Y Z", "", "X"} {
		if got := namesOf(clauses[i].Vars); got != want {
			t.Errorf("P5: clause %d: got %s, want %s", i, got, want)
		}
	}
	if clauses[0].Vars[0] == clauses[2].Vars[0] {
		t.Error("P5: a variable of two clauses")
	}
}

// TestProgram: P5's clauses, their heads and bodies.
func TestProgram(t *testing.T) {
	clauses, err := Program("a. a(X,[X]) :- b,c.\nb:-!.")
	if err != nil {
		t.Fatal(err)
	}
	var got []string
	for _, c := range clauses {
		got = append(got, goalForm(c.Head)+" "+goalForm(c.Body))
	}
	if want := "a/[] all{}; a/[_1,[_1]] all{b/[] c/[]}; b/[] !"; strings.Join(got, "; ") != want {
		t.Errorf("P5: got %s, want %s", strings.Join(got, "; "), want)
	}
}

// TestReading: what a rule read is not told with a fault behind it, and a panic that is no fault goes on.
func TestReading(t *testing.T) {
	got, err := reading("a b", func(r *reader) string { return r.take().text })
	if errno, place := api.Tell(err); got != "" || errno != api.ErrSyntax || place != 2 {
		t.Errorf("P1: %q %v", got, err)
	}
	other := errors.New("other")
	defer func() {
		if caught := recover(); caught != other {
			t.Errorf("caught %v", caught)
		}
	}()
	reading("a", func(*reader) string { panic(other) })
}
