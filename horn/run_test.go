package horn_test

import (
	"runtime"
	"strconv"
	"strings"
	"testing"

	"horn/api"
	"horn/horn"
)

// lines is a code: `;` is a line's end.
func lines(text string) string { return strings.ReplaceAll(text, ";", "\n") }

func run(t *testing.T, code string) *horn.Query {
	t.Helper()
	query, err := horn.Run(lines(code))
	if query == nil || err != nil {
		t.Fatalf("Run(%s): %v", short(code), err)
	}
	return query
}

// short tells which code it is, of those that fill a page, too.
func short(code string) string { return strconv.Quote(code[:min(len(code), 300)]) }

// checkRuns runs codes, and holds what is told against what has to be.
func checkRuns(t *testing.T, promise string, codes map[string]string) {
	t.Helper()
	for code, want := range codes {
		checkTold(t, promise+": "+short(code), run(t, code), want)
	}
}

// each writes so many numbers, with a text ahead of each.
func each(ahead string, from, many int) string {
	var out strings.Builder
	for i := range many {
		out.WriteString(ahead + strconv.Itoa(from+i))
	}
	return out.String()
}

// TestRunForms: P13: which slots an answer has, and how they are written.
func TestRunForms(t *testing.T) {
	checkRuns(t, "P13", map[string]string{
		"query 0 0;done;": "true; none", "query 1 0;done;": "true; none", "query 1 0;level 0;done;": "true; none", "query 1 0;put 0 a;done;": "true; none",
		"query 2 1;put 0 a;done;": "a; none", "query 2 2;put 1 a;put 0 b;done;": "b, a; none", "query 2 2;new 1;new 0;done;": "_1, _2; none", "query 3 3;new 2;make 0 f 2;new 1;done;": "f(_1), _2, _1; none",
		"query 3 2;new 0;new 1;make 2 f 1 0;make 0 g 2 1;done;":      "g(f(_1,_2),_1), _1; none",
		"query 3 1;put 0 a;put 1 [];make 2 . 0 1;make 0 . 0 2;done;": "[a,a]; none", "query 2 2;new 0;put 1 b;make 1 . 1 0;done;": "_1, [b|_1]; none", "query 1 1;put 0 a;make 0 . 0 0;done;": "[a|a]; none", "query 1 1;put 0 [];make 0 . 0 0;make 0 . 0 0;done;": "[[[]],[]]; none", "query 1 1;put 0 a;make 0 . 0;done;": ".(a); none", "query 1 1;put 0 [];done;": "[]; none", "query 1 1;put 0 [];make 0 [] 0;done;": "[]([]); none",
		"query 2 2;put 0 1;put 1 2;make 0 + 0 1;make 1 * 0 1;done;": "1+2, (1+2)*2; none", "query 1 1;put 0 1;make 0 - 0 0;make 0 - 0 0;done;": "1-1-(1-1); none", "query 1 1;put 0 -1;make 0 mod 0 0;done;": "-1 mod -1; none", "query 1 1;put 0 a;make 0 - 0;done;": "-(a); none", "query 1 1;put 0 a;make 0 + 0 0 0;done;": "+(a,a,a); none", "query 1 1;put 0 -;make 0 - 0 0;done;": "---; none",
		"query 1 1;put 0 a,b;make 0 ( 0 0;done;": "((a,b,a,b); none", "query 1 1;put 0 A;make 0 abcdefghij 0;done;": "abcdefghij(A); none", "query 1 1;put 0 +5;done;": "+5; none",
		"query 64 64" + each(";new ", 0, 64) + ";done;": "_1" + each(", _", 2, 63) + "; none",
	})
}

// TestNew, and those below: P11: what each instruction does.
func TestNew(t *testing.T) {
	checkRuns(t, "P11", map[string]string{
		"query 2 2;new 0;new 1;const 0 a;done;": "a, _1; none", "query 1 1;new 0;const 0 a;new 0;done;": "_1; none", "query 2 2;new 0;make 1 f 0;new 0;done;": "_1, f(_2); none", "query 64 1;new 0;new 63;same 0 63;const 63 a;done;": "a; none", "query 1 1;level 0;new 0;done;": "_1; none",
	})
}

// TestConstants: P11: put and const, and numbers of 64 bits.
func TestConstants(t *testing.T) {
	checkRuns(t, "P11", map[string]string{
		"query 1 1;put 0 a;put 0 b;done;": "b; none", "query 1 1;new 0;put 0 b;done;": "b; none", "query 2 2;put 0 0;put 1 -1;done;": "0, -1; none",
		"query 2 2;put 0 9223372036854775807;put 1 -9223372036854775808;done;": "9223372036854775807, -9223372036854775808; none", "query 1 1;put 0 12345678901;const 0 12345678901;done;": "12345678901; none",
		"query 1 1;new 0;const 0 a;const 0 a;done;": "a; none", "query 1 1;new 0;const 0 a;const 0 b;done;": "none", "query 1 1;put 0 1;const 0 1;done;": "1; none", "query 1 1;put 0 1;const 0 -1;done;": "none", "query 1 1;put 0 1;const 0 a;done;": "none", "query 1 1;put 0 a;make 0 a 0;const 0 a;done;": "none", "query 1 1;put 0 [];const 0 [];done;": "[]; none",
		"query 2 1;new 0;put 1 1;test is 0 1;test integer 0;const 0 1;done;": "1; none", "query 1 1;put 0 a1;test atom 0;done;": "a1; none",
	})
}

func TestSameSlots(t *testing.T) {
	checkRuns(t, "P11", map[string]string{
		"query 2 2;new 0;new 1;same 0 1;done;": "_1, _1; none", "query 2 2;new 0;new 1;same 0 1;const 1 7;done;": "7, 7; none", "query 2 2;new 0;new 1;same 1 0;const 1 7;done;": "7, 7; none", "query 1 1;new 0;same 0 0;done;": "_1; none", "query 2 2;put 0 a;put 1 a;same 0 1;done;": "a, a; none", "query 2 2;put 0 a;put 1 b;same 0 1;done;": "none",
		"query 2 1;new 0;make 1 f 0;same 0 1;done;": "none", "query 2 1;new 0;make 1 f 0;same 1 0;done;": "none", "query 2 1;new 0;make 1 f 0 0 0;same 0 1;done;": "none",
		"query 3 3;new 0;new 1;put 2 a;make 0 f 0 2;make 1 f 2 1;same 0 1;done;": "f(a,a), f(a,a), a; none", "query 3 2;new 0;new 1;make 2 f 0 1 0;make 0 f 1 1 1;same 2 0;done;": "f(_1,_1,_1), _1; none", "query 2 0;put 0 a;make 1 f 0;make 0 f 0 0;same 0 1;done;": "none", "query 2 0;put 0 a;make 1 g 0;make 0 f 0;same 0 1;done;": "none",
	})
}

func TestMake(t *testing.T) {
	checkRuns(t, "P11", map[string]string{
		"query 3 3;new 0;new 1;make 2 f 0 1 0;done;": "_1, _2, f(_1,_2,_1); none", "query 1 1;put 0 a;make 0 f 0;make 0 f 0 0;done;": "f(f(a),f(a)); none", "query 2 2;put 0 a;make 1 f 0;put 0 b;done;": "b, f(a); none", "query 2 2;new 0;make 1 f 0 0;const 0 b;done;": "b, f(b,b); none", "query 3 1;put 1 x;put 2 y;make 0 f 2 1 1 2 2;done;": "f(y,x,x,y,y); none",
		"query 2 2;put 0 3;make 0 * 0 0;new 1;test is 1 0;done;": "3*3, 9; none", "query 2 0;put 0 a;make 1 f 0 0;make 0 f 0 0;test == 0 1;done;": "true; none", "query 3 0;put 0 a;put 1 b;make 2 f 0 0 1;make 1 f 0 1 1;test == 2 1;done;": "none",
	})
}

// TestSplit: P11: also slots that stand there twice, whose variables are none the less.
func TestSplit(t *testing.T) {
	checkRuns(t, "P11", map[string]string{
		"query 3 3;new 0;split 0 f 1 2;done;": "f(_1,_2), _1, _2; none", "query 3 3;new 0;split 0 f 2 1;const 1 a;done;": "f(_1,a), a, _1; none", "query 3 3;put 1 a;put 2 b;make 0 f 1 2;split 0 f 2 1;done;": "f(a,b), b, a; none", "query 3 3;new 0;put 1 a;make 2 f 1;new 1;same 0 2;split 0 f 1;done;": "f(a), a, f(a); none",
		"query 2 2;new 0;split 0 f 1 1;done;": "f(_1,_2), _2; none", "query 2 2;new 0;split 0 f 1 1 1;const 1 a;done;": "f(_1,_2,a), a; none", "query 3 3;new 0;split 0 f 1 2 1;const 1 a;const 2 b;done;": "f(_1,b,a), a, b; none", "query 3 3;put 1 a;put 2 b;make 0 f 1 2;split 0 f 1 1;done;": "f(a,b), b, b; none", "query 3 3;put 1 a;put 2 b;make 0 f 1 2 1;split 0 f 1 2 2;done;": "f(a,b,a), a, a; none",
		"query 1 1;new 0;split 0 f 0;done;": "_1; none", "query 2 2;new 0;make 1 g 0;split 0 f 0 0;done;": "_1, g(f(_2,_1)); none", "query 2 1;put 1 a;make 0 f 1 1;split 0 f 0 0;done;": "a; none",
		"query 4 4;new 0;split 0 f 1 1 1;split 0 f 1 2 3;const 2 a;done;": "f(_1,a,_2), _1, a, _2; none", "query 4 2;new 0;new 1;split 0 f 2 2 2;split 1 f 3 3 3;same 0 1;const 2 a;done;": "f(_1,_2,a), f(_1,_2,a); none", "query 3 1;new 0;split 0 f 1 1;split 0 f 1 2;same 1 0;done;": "none", "query 3 3;new 0;split 0 f 1 1;new 2;same 2 0;done;": "f(_1,_2), _2, f(_1,_2); none", "query 2 1;new 0;split 0 f 1 1 1;test == 0 0;done;": "f(_1,_2,_3); none", "query 4 0;new 0;new 1;split 0 f 2 2;split 1 f 3 3;test == 0 1;done;": "none", "query 2 2;new 0;split 0 . 1 1;const 1 [];done;": "[_1], []; none", "query 2 1;new 0;split 0 + 1 1;test is 1 0;done;": "inst",
		"query 2 1;new 1;make 0 f 1;split 0 g 1;done;": "none", "query 3 1;new 1;make 0 f 1;split 0 f 1 2;done;": "none", "query 3 1;new 1;make 0 f 1 1;split 0 f 1;done;": "none", "query 2 1;put 0 f;split 0 f 1;done;": "none", "query 2 1;put 0 1;split 0 f 1;done;": "none", "query 2 1;new 0;const 0 a;split 0 f 1;done;": "none",
		"query 2 2;new 0;put 1 z;try 5;split 0 f 1;test fail;done;": "_1, _2; none", "query 3 2;new 0;put 2 z;try 5;split 0 f 1 1;test fail;split 0 f 1 2;done;": "f(_1,_2), _1; none",
	})
}

// TestTests: P11: the goals of P8.
func TestTests(t *testing.T) {
	holds := []string{
		"put 0 1;put 1 2;test < 0 1", "put 0 2;put 1 1;test > 0 1", "put 0 1;put 1 1;test =< 0 1", "put 0 1;put 1 1;test >= 0 1", "put 0 1;put 1 1;test =:= 0 1", "new 0;put 1 3;test is 0 1;const 0 3", "new 0;new 1;test = 0 1;test == 0 1", "new 0;put 1 a;test = 0 1;const 0 a", "put 0 a;put 1 b;test \\= 0 1", "new 0;make 1 f 0;test \\= 0 1;test var 0", "new 0;test == 0 0", "new 0;test var 0", "put 0 a;test nonvar 0", "put 0 a;test atom 0", "put 0 1;test integer 0", "test true",
	}
	fails := []string{
		"put 0 1;put 1 1;test < 0 1", "put 0 1;put 1 1;test > 0 1", "put 0 2;put 1 1;test =< 0 1", "put 0 1;put 1 2;test >= 0 1", "put 0 1;put 1 2;test =:= 0 1", "put 0 1;put 1 3;test is 0 1", "put 0 a;put 1 b;test = 0 1", "new 0;put 1 a;test \\= 0 1", "new 0;new 1;test == 0 1", "put 0 a;test var 0", "new 0;test nonvar 0", "put 0 1;test atom 0", "put 0 a;test integer 0", "test fail",
	}
	for _, part := range holds {
		checkRuns(t, "P11", map[string]string{"query 2 0;" + part + ";done;": "true; none"})
	}
	for _, part := range fails {
		checkRuns(t, "P11", map[string]string{"query 2 0;" + part + ";done;": "none"})
	}
	checkRuns(t, "P9", map[string]string{
		"query 2 0;new 0;put 1 1;test < 0 1;done;": "inst", "query 2 0;put 0 a;put 1 1;test < 0 1;done;": "type", "query 2 0;put 0 0;make 0 // 0 0;put 1 1;test < 0 1;done;": "zero", "query 1 0;put 0 1;make 0 - 0;test =:= 0 0;done;": "type", "query 2 0;put 0 9223372036854775807;put 1 1;make 0 + 0 1;put 1 -9223372036854775808;test =:= 0 1;done;": "true; none",
	})
}

// TestStack: P11, P12: try, jump, level, mark and cut; bindings are undone, and slots are as they are.
func TestStack(t *testing.T) {
	checkRuns(t, "P12", map[string]string{
		"query 1 1;new 0;try 5;const 0 a;jump 6;done;const 0 b;done;": "a; b; none", "query 1 1;try 5;try 3;put 0 a;put 0 b;jump 6;put 0 c;done;": "b; b; c; none", "query 2 2;put 1 a;new 0;try 6;put 1 b;const 0 c;test fail;done;": "_1, b; none", "query 2 2;new 0;new 1;same 0 1;try 6;const 0 a;done;done;": "a, a; _1, _1; none",
		"query 1 1;jump 3;put 0 a;done;put 0 b;jump 2;": "b; none", "query 0 0;jump 1;done;": "true; none", "query 0 0;try 1;done;": "true; true; none",
		"query 2 1;new 0;level 1;try 6;const 0 a;cut 1;jump 7;const 0 b;done;": "a; none", "query 2 1;new 0;level 1;try 6;const 0 a;test fail;jump 7;const 0 b;done;": "b; none", "query 2 1;new 0;try 3;mark 1;cut 1;done;": "_1; none", "query 1 0;level 0;try 3;try 3;try 3;cut 0;done;": "true; none", "query 1 0;try 4;level 0;try 4;cut 0;done;": "true; true; none",
		// a height above the stack's own cuts nothing, neither then nor when there are places again
		"query 1 0;try 3;level 0;test fail;cut 0;done;": "true; none", "query 2 1;new 0;try 4;level 1;test fail;try 7;cut 1;done;const 0 a;done;": "_1; a; none", "query 2 1;new 0;try 4;level 1;test fail;try 8;try 8;cut 1;done;const 0 a;done;": "_1; a; none", "query 1 0;level 0;cut 0;cut 0;done;": "true; none",
		// a place that is not in the clause counts when it is come to
		"query 0 0;try 9999;done;": "true; code", "query 0 0;try 2;done;": "true; code", "query 0 0;jump 9999;done;": "code", "query 0 0;jump 2;done;": "code", "query 1 0;level 0;try 9999;cut 0;done;": "true; none", "query 1 0;mark 0;try 9999;cut 0;jump 5;ret;done;": "true; none",
	})
}

const (
	two  = "pred p 1;clause 1;const 0 1;ret;clause 1;const 0 2;ret;"
	nats = "pred n 1;clause 1;const 0 0;ret;clause 3;new 1;call n 1;make 2 s 1;same 0 2;ret;"
)

// TestCalls: P12: call and ret, frames and their slots, and the places of clauses.
func TestCalls(t *testing.T) {
	checkRuns(t, "P12", map[string]string{
		two + "query 1 1;new 0;call p 0;done;": "1; 2; none", two + "query 1 1;put 0 2;call p 0;done;": "2; none", two + "query 2 2;new 0;new 1;call p 0;call p 1;done;": "1, 1; 1, 2; 2, 1; 2, 2; none", two + "query 2 1;new 0;level 1;call p 0;cut 1;done;": "1; none",
		two + "pred q 1;clause 2;mark 1;call p 0;cut 1;ret;clause 1;const 0 3;ret;query 1 1;new 0;call q 0;done;": "1; none", two + "pred q 1;clause 2;level 1;call p 0;cut 1;ret;clause 1;const 0 3;ret;query 1 1;new 0;call q 0;done;": "1; 3; none", two + "pred q 1;clause 2;mark 1;cut 1;call p 0;ret;clause 1;const 0 3;ret;query 2 2;new 0;new 1;call p 1;call q 0;done;": "1, 1; 2, 1; 1, 2; 2, 2; none",
		// the last clause leaves no place, so that its mark and its level are one
		"pred p 1;clause 0;test fail;clause 3;mark 1;level 2;try 4;cut 2;ret;query 1 1;new 0;call p 0;done;": "_1; none",
		nats + "query 1 1;new 0;call n 0;done;": "0; s(0); s(s(0)); s(s(s(0)))", "pred n 1;clause 1;const 0 0;ret;clause 2;new 1;call n 1;make 1 s 1;same 0 1;ret;query 1 1;new 0;call n 0;done;": "0; s(0); s(s(s(0)))",
		// the arguments are as they were at the call, whatever was put in their slots since, here or there
		"pred p 2;clause 2;put 0 z;same 0 1;test fail;ret;clause 2;same 0 1;ret;query 2 2;put 0 a;new 1;call p 0 1;done;": "a, a; none", "pred p 1;clause 1;ret;clause 1;const 0 b;ret;query 2 2;new 0;make 1 f 0;call p 0;put 0 c;done;": "c, f(_1); c, f(b); none",
		"pred p 1;clause 1;new 0;const 0 a;ret;query 1 1;new 0;call p 0;done;": "_1; none", "pred p 2;clause 2;const 0 a;const 1 b;ret;query 2 2;new 0;new 1;call p 1 0;done;": "b, a; none", "pred p 2;clause 2;same 0 1;ret;query 1 1;new 0;call p 0 0;done;": "_1; none",
		// behind its end a clause goes on behind the call
		"pred p 1;clause 1;call q 0;const 0 a;ret;pred q 1;clause 1;ret;query 2 2;new 0;new 1;call p 0;call p 1;done;": "a, a; none", "pred p 0;clause 0;try 2;ret;ret;query 0 0;call p;call p;done;": "true; true; true; true; none",
		"pred p 0;clause 0;ret;pred p 1;clause 1;const 0 a;ret;query 1 1;new 0;call p 0;call p;done;": "a; none", "pred true 0;clause 0;ret;pred - 0;clause 0;ret;pred abcdefghij 0;clause 0;ret;pred pred 0;clause 0;ret;query 0 0;call true;call -;call abcdefghij;call pred;done;": "true; none",
		// a predicate without clauses fails, one that is not there ends the query
		"pred p 2;query 1 1;new 0;call p 0 0;done;": "none", "pred p 2;query 1 1;new 0;try 4;call p 0 0;ret;done;": "_1; none", "pred p 2;query 1 1;new 0;call p 0;done;": "proc", "query 1 0;call q;done;": "proc", "query 0 0;try 2;call q;done;": "proc", "query 0 0;call true;done;": "proc", "query 1 0;call q 0;done;": "proc", two + "query 1 0;call p" + strings.Repeat(" 0", 64) + ";done;": "proc", two + "query 1 1;new 0;call p 0;try 4;done;call p;": "1; proc",
	})
}

// TestArguments: P12: as many as 63, never read, of nothing, of heights, and more than there are slots.
func TestArguments(t *testing.T) {
	zeros := strings.Repeat(" 0", 63)
	checkRuns(t, "P12", map[string]string{
		"pred p 63;clause 64;const 62 a;mark 63;cut 63;ret;query 1 1;new 0;call p" + zeros + ";done;": "a; none", "pred p 63;clause 63;same 0 62;const 62 a;ret;query 63 2" + each(";new ", 0, 63) + ";call p" + each(" ", 0, 63) + ";done;": "a, _1; none", "pred p 63;clause 0;ret;query 1 1;new 0;call p" + zeros + ";done;": "_1; none", "pred p 2;clause 1;const 0 a;ret;query 2 2;new 0;new 1;call p 1 0;done;": "_1, a; none",
		"pred p 1;clause 1;ret;query 2 1;new 0;call p 1;done;": "_1; none", "pred p 1;clause 1;const 0 a;ret;query 2 1;new 0;call p 1;done;": "code", "pred p 1;clause 1;new 0;const 0 a;ret;query 1 0;call p 0;done;": "true; none", "pred p 1;clause 1;call q 0;ret;pred q 1;clause 0;ret;clause 1;put 0 a;ret;query 2 1;new 0;call p 1;done;": "_1; _1; none",
		"pred p 1;clause 1;cut 0;ret;query 2 1;new 0;level 1;try 6;call p 1;const 0 a;done;const 0 b;done;": "a; none", "pred p 1;clause 1;cut 0;const 0 a;ret;query 2 1;new 0;level 1;call p 1;done;": "code", "pred p 1;clause 2;call q 0;ret;pred q 1;clause 1;cut 0;ret;clause 1;ret;query 1 0;level 0;try 3;call p 0;done;": "true; none",
		"pred p 1;clause 2;same 0 1;ret;query 1 1;new 0;call p 0;done;": "code", "pred p 1;clause 2;cut 1;ret;query 1 1;new 0;call p 0;done;": "code",
	})
}

// TestCodeEndings: P12: what ends a query with ErrCode, each time from then on.
func TestCodeEndings(t *testing.T) {
	checkRuns(t, "P12", map[string]string{
		"query 0 0;": "code", "query 1 1;new 0;": "code", "query 0 0;test true;": "code", "query 0 0;ret;": "code", "query 0 0;try 1;ret;": "code", "pred p 0;clause 0;done;query 0 0;call p;done;": "code", "pred p 0;clause 0;query 0 0;call p;done;": "code", "pred p 0;clause 0;test true;query 0 0;call p;done;": "code", "pred p 0;clause 0;jump 2;ret;query 0 0;call p;done;ret;ret;": "code", "pred p 0;clause 0;test fail;clause 0;done;query 0 0;call p;done;": "code",
		"query 1 1;done;": "code", "query 2 2;new 0;done;": "code", "query 2 2;new 1;done;": "code", "query 1 1;level 0;done;": "code", "query 2 2;new 0;mark 1;done;": "code", "query 1 1;put 0 a;try 3;done;level 0;done;": "a; code", "query 2 1;put 0 a;done;same 0 1;": "a; none", "query 2 1;put 0 a;try 3;done;same 0 1;": "a; code",
	})
	for _, part := range []string{"const 0 a", "same 0 1", "same 1 0", "same 0 0", "make 2 f 0", "make 2 f 1 0", "make 2 f 1 1 0 1", "make 0 f 0", "split 0 f 2", "split 0 f 0", "test var 0", "test nonvar 0", "test = 0 1", "test = 1 0", "test \\= 1 0", "test == 0 0", "test is 1 0", "test is 0 1", "test < 0 1", "test < 1 0", "call p 0"} {
		start := "pred p 1;clause 1;const 0 b;ret;query 3 0;new 1;"
		checkRuns(t, "P12", map[string]string{start + part + ";done;": "code", start + "level 0;" + part + ";done;": "code", start + "mark 0;" + part + ";done;": "code"})
	}
	checkRuns(t, "P12", map[string]string{"query 1 0;cut 0;done;": "code", "query 1 0;new 0;cut 0;done;": "code", "query 1 0;put 0 0;cut 0;done;": "code", "query 1 0;level 0;put 0 1;cut 0;done;": "code", "query 1 0;put 0 1;level 0;cut 0;done;": "true; none"})
}

// down counts from a number to 0: 16 for each, and 7.
func down(from int) string {
	return "pred c 1;clause 1;const 0 0;ret;clause 4;put 1 0;test > 0 1;put 1 1;make 2 - 0 1;new 3;test is 3 2;call c 3;ret;query 1 1;put 0 " + strconv.Itoa(from) + ";call c 0;done;"
}

// TestRunMuch: P13: what comes before more than 20,000 are counted is told.
func TestRunMuch(t *testing.T) {
	checkRuns(t, "P13", map[string]string{
		down(1249): "1249; none", strings.Replace(down(1249), ";done;", ";", 1): "code", strings.Replace(down(1249), ";done;", ";call q;", 1): "proc",
		"query 1 1;put 0 a" + strings.Repeat(";make 0 f 0 0", 13) + ";done;": doubled(13), "query 1 0;put 0 a;make 0 f" + strings.Repeat(" 0", 19000) + ";test == 0 0;done;": "true; none",
	})
}

func doubled(times int) string {
	full := "a"
	for range times {
		full = "f(" + full + "," + full + ")"
	}
	return full
}

// TestRunNever: P13: a code that would never end is ended, also one that has answers for ever.
func TestRunNever(t *testing.T) {
	for _, code := range []string{
		"query 0 0;jump 0;", "query 0 0;try 0;test fail;", "query 0 0;try 0;jump 0;", "query 1 0;level 0;try 0;cut 0;jump 0;", "query 1 0;new 0;jump 0;", "query 1 0;put 0 a;make 0 f 0;jump 1;", "query 2 0;new 0;new 1;same 0 1;jump 1;", "query 1 0;put 0 a;make 0 f 0 0;test == 0 0;jump 1;", "query 2 0;put 0 a;make 0 f 0 0;new 1;same 1 0;jump 1;", "query 2 0;new 0;split 0 f 0;jump 1;", "query 1 1;put 0 a" + strings.Repeat(";make 0 f 0 0", 64) + ";done;",
		"pred p 0;clause 0;call p;ret;query 0 0;call p;done;", "pred p 0;clause 0;call p;ret;clause 0;call p;ret;query 0 0;call p;done;", "pred p 63;clause 64;call p" + strings.Repeat(" 63", 63) + ";clause 0;query 64 0;call p" + each(" ", 0, 63) + ";", "pred p 0;clause 0;ret;clause 0;ret;query 0 0;call p;jump 0;",
	} {
		checkRuns(t, "P13", map[string]string{code: "fuel"})
	}
	for _, code := range []string{"query 0 0;try 0;done;", nats + "query 1 1;new 0;call n 0;done;", "query 1 1;new 0;try 0;done;"} {
		query, last := run(t, code), ""
		for range 100 * api.Fuel {
			if last = told(t, query); last == "fuel" {
				break
			}
		}
		if last != "fuel" {
			t.Errorf("P13: %s: %s", short(code), last)
		}
	}
}

// checkRoom runs a code that would never end, and holds the room it takes against what it may.
func checkRoom(t *testing.T, code string, most uint64) {
	t.Helper()
	var before, after runtime.MemStats
	runtime.ReadMemStats(&before)
	if got := told(t, run(t, code)); got != "fuel" {
		t.Errorf("P13: %s", got)
	}
	runtime.ReadMemStats(&after)
	if room := after.TotalAlloc - before.TotalAlloc; room > most {
		t.Errorf("P1: %s takes %d bytes", short(code), room)
	}
}

// TestRunMost: P1: codes for which as much is done as ever is take no more room than there is, and no longer the more they have bound.
func TestRunMost(t *testing.T) {
	all, most := each(" ", 0, 64), "pred most 0;clause 1"+strings.Repeat(";put 0 a", 95)+";"
	for _, code := range []string{
		"query 64 0" + each(";new ", 0, 64) + strings.Repeat(";make 0 f"+all, 90) + ";jump 64;", "query 64 0;new 0" + strings.Repeat(";split 0 f"+all, 90) + ";jump 1;", most + "pred p 63;clause 64;call p" + each(" ", 0, 63) + ";test true;ret;clause 0;query 64 0;call p" + each(" ", 0, 63) + ";",
		most + "query 2 0;new 0;new 1;same 0 1;jump 1;", most + "query 2 0;new 0;new 1;same 1 0;jump 1;", most + "query 1 1;put 0 a" + strings.Repeat(";make 0 f 0", 4000) + ";try 1;jump 1;",
	} {
		checkRoom(t, code, 1<<29)
	}
}

// TestRunWide: P1: a line with thousands of slots, done again and again, and lists that share one another's, take no more room than there is.
func TestRunWide(t *testing.T) {
	wide := strings.Repeat(" 1", 32000)
	for _, code := range []string{"query 2 0;new 1;make 1 f" + wide + ";jump 1;", "query 2 0;new 0;split 0 f" + wide + ";jump 0;", "query 2 0;try 0;new 0;split 0 f" + wide + ";make 1 f" + wide[:100] + ";jump 0;", "query 2 0;put 1 a;make 1 f" + wide + ";new 0;same 0 1;jump 2;", "query 1 1;put 0 a" + strings.Repeat(";make 0 . 0 0", 5000) + ";done;"} {
		checkRoom(t, code, 1<<28)
	}
	wide = strings.Repeat(" 1", 9000)
	checkRuns(t, "P11", map[string]string{
		"query 3 1;put 1 a;make 2 f" + wide + ";new 0;split 0 f" + wide + ";same 0 2;split 0 f" + wide[2:] + " 0;done;": "a; none",
		"query 2 2;new 0;split 0 f" + wide[:600] + ";done;":                                                             "f(_1" + each(",_", 2, 299) + "), _300; none",
	})
}
