package horn_test

import (
	"strconv"
	"strings"
	"testing"

	"horn/api"
	"horn/horn"
)

func codeAt(line int) fault { return fault{api.ErrCode, line} }

func checkCode(t *testing.T, code string, want fault) {
	t.Helper()
	query, err := horn.Run(code)
	check(t, "Run", code[:min(len(code), 300)], err, want)
	if (query == nil) != (err != nil) {
		t.Errorf("Run(%s): %v with %v", short(code), query, err)
	}
}

// TestCodeOrder: P11: which lines may stand where.
func TestCodeOrder(t *testing.T) {
	for code, want := range map[string]fault{
		"query 0 0;": fine, "query 0 0;done;": fine, "pred p 0;query 0 0;": fine, "pred p 0;clause 0;query 0 0;": fine, "pred p 0;clause 0;clause 0;ret;ret;query 0 0;ret;": fine, "pred p 0;pred q 0;pred p 1;pred P 0;clause 0;pred r 0;query 0 0;": fine, "pred p 0;clause 0;ret;pred q 0;clause 0;ret;clause 1;new 0;query 1 0;new 0;": fine,
		"": codeAt(1), ";": codeAt(1), ";query 0 0;": codeAt(1), "query 0 0;;": codeAt(2), "query 0 0;;done;": codeAt(2), "pred p 0;;": codeAt(2),
		// each is ended
		"query 0 0": codeAt(1), "query 0 0;done": codeAt(2), "pred p 0": codeAt(1), "x;query 0 0": codeAt(1), "query 0 0; ": codeAt(2),
		// there is a query, in the end, and but one
		"pred p 0;": codeAt(2), "pred p 0;clause 0;": codeAt(3), "pred p 0;clause 0;ret;": codeAt(4), "query 1 1;query 1 1;": codeAt(2), "query 1 1;new 0;query 1 1;": codeAt(3), "query 1 1;pred p 0;": codeAt(2), "query 1 1;clause 0;": codeAt(2), "pred p 0;query 1 1;clause 0;": codeAt(3), "pred p 0;clause 0;query 1 1;new 0;clause 1;": codeAt(5),
		// clauses are of a predicate, instructions of a clause or of the query
		"clause 0;": codeAt(1), "clause 0;ret;query 0 0;": codeAt(1), "ret;": codeAt(1), "done;query 0 0;": codeAt(1), "pred p 0;ret;": codeAt(2), "pred p 0;ret;query 0 0;": codeAt(2), "pred p 0;clause 0;ret;pred q 0;ret;query 0 0;": codeAt(5),
		// no predicate twice
		"pred p 0;pred p 0;": codeAt(2), "pred p 0;clause 0;ret;pred q 0;pred p 0;query 0 0;": codeAt(5), "pred p 1;pred p 0;pred p 1;query 0 0;": codeAt(3),
		// the first one counts
		"pred p 0;x;query 0 0;y;": codeAt(2), "query 1 0;new 0;new 1;new 2;": codeAt(3), "pred p 64;pred p 64;": codeAt(1),
	} {
		checkCode(t, lines(code), want)
	}
}

// TestCodeHeads: P11: predicates, clauses and the query, with 63 arguments and 64 slots at the most.
func TestCodeHeads(t *testing.T) {
	for line, good := range map[string]bool{
		"pred p 0": true, "pred p 63": true, "pred p 64": false, "pred p 9": true, "pred p 00": false, "pred p 01": false, "pred p -1": false, "pred p -0": false, "pred p +1": false, "pred p": false, "pred": false, "pred p 0 0": false, "pred p q": false, "pred p ": false, "pred  p 0": false, "pred 0 p": false, "pred p 18446744073709551616": false, "pred p 1.0": false, "pred p 0x1": false, "pred p 1_0": false,
		"pred abcdefghij 0": true, "pred abcdefghijk 0": false, "pred 1p 0": false, "pred -p 0": false, "pred - 0": true, "pred -- 0": false, "pred p- 0": true, "pred !~ 0": true, "pred p1 0": true, "pred P 0": true, "pred _ 0": true, "pred [] 0": true, "pred é 0": false, "pred p\x7f 0": false, "pred p\x80 0": false, "pred p\x00 0": false, "pred p\t 0": false, "pred\tp 0": false, "pred p\t0": false, "pred query 0": true, "Pred p 0": false, "pred p 0\r": false, " pred p 0": false,
	} {
		want := codeAt(1)
		if good {
			want = fine
		}
		checkCode(t, line+"\nquery 0 0\n", want)
	}
	for line, good := range map[string]bool{
		"clause 0": true, "clause 64": true, "clause 65": false, "clause 00": false, "clause": false, "clause 0 0": false, "clause -1": false, "clause a": false, "clause ": false, "clause 0 ": false, "clauses 0": false, "clause  0": false, "clause 4294967296": false,
		"query 0 0": true, "query 64 64": true, "query 64 0": true, "query 65 0": false, "query 65 65": false, "query 0 1": false, "query 63 64": false, "query 1 1": true, "query 0": false, "query": false, "query 0 0 0": false, "query 00 0": false, "query 0 00": false, "query 1 01": false, "query -1 -1": false, "query 1 -0": false, "query a b": false, "query 1 ": false, "query 1 1 ": false, "query 1  1": false, "query 1 18446744073709551617": false,
	} {
		want, end := codeAt(2), ""
		if good {
			want = fine
		}
		if strings.HasPrefix(line, "clause") {
			end = "query 0 0\n"
		}
		checkCode(t, "pred p 63\n"+line+"\n"+end, want)
	}
}

// checkInstructions holds lines against whether they are instructions of three slots, of a clause as of the query.
func checkInstructions(t *testing.T, good bool, all ...string) {
	t.Helper()
	want := codeAt(3)
	if good {
		want = fine
	}
	for _, line := range all {
		checkCode(t, "query 3 3\ndone\n"+line+"\n", want)
		checkCode(t, "pred p 1\nclause 3\n"+line+"\nquery 0 0\n", want)
	}
}

// TestInstructionLines: P11: what is an instruction, and what is none.
func TestInstructionLines(t *testing.T) {
	good := strings.Split("new 2;put 0 a;put 2 1;const 0 a;const 2 -1;same 0 2;same 1 1;make 0 f 1;make 2 . 2 2 2 2 2;split 0 f 1;split 0 f 0 0 0;test true;test fail;test = 0 1;test \\= 0 1;test == 0 1;test is 0 1;test < 0 1;test > 0 1;test =< 0 1;test >= 0 1;test =:= 0 2;test var 0;test nonvar 1;test atom 2;test integer 0;mark 0;level 1;cut 2;try 0;try 9999;jump 0;jump 9999;call p;call p 0;call p 2 2 2 2 2 2;call true;ret;done", ";")
	checkInstructions(t, true, good...)
	for _, line := range good {
		checkInstructions(t, false, " "+line, line+" ", line+"\t", line+"\r", line+" 3", line+" a", "x"+line, strings.ToUpper(line[:1])+line[1:], strings.Replace(line, " ", "  ", 1)+" ", strings.Replace(line+" ", " ", "\t", 1))
	}
	// too few words, and too many
	checkInstructions(t, false, strings.Split("new;put;put 0;const;const 0;same;same 0;make;make 0;make 0 f;make f 0;split;split 0;split 0 f;test;test =;test = 0;test <;test < 0;test var;test is 0;mark;level;cut;try;jump;call", ";")...)
	checkInstructions(t, false, strings.Split("new 0 0;put 0 a a;const 0 a a;same 0 1 2;test true 0;test fail 0;test var 0 1;test = 0 1 2;test is 0 1 2;mark 0 0;level 0 0;cut 0 0;try 0 0;jump 0 0;ret 0;done 0", ";")...)
	// slots that are not there, places that cannot be written, goals that are none
	checkInstructions(t, false, strings.Split("new 3;new -1;new 00;new 01;new +1;new a;new 18446744073709551616;put 3 a;const 3 a;same 3 0;same 0 3;make 3 f 0;make 0 f 3;make 0 f 0 0 0 3;split 3 f 0;split 0 f 3;split 0 f 0 1 2 3 0;test var 3;test = 3 0;test = 0 3;mark 3;level 3;cut 3;call p 3;call p 0 1 2 3;call p -1;call p q", ";")...)
	checkInstructions(t, false, strings.Split("try 10000;try -1;try 00;try 01;try -0;try +1;try a;try 99999999999999999999;jump 10000;jump -1;jump 007;jump 1.5;test nope 0;test mod 0 1;test + 0 1;test ! 0;test , 0 1;test 1;test var() 0;halt;halt 0;new0;0;-;!;pred;clause;query", ";")...)
	checkInstructions(t, false, "make 0 1 1", "make 0 -1 1", "make 0 -f 1", "make 0 abcdefghijk 1", "make 0 é 1", "split 0 1 1", "split 0 f\x7f 1", "call 1", "call -p", "call abcdefghijk", "call p\x00", "call é 0")
	checkInstructions(t, true, "make 0 - 1", "make 0 // 1 2", "make 0 abcdefghij 1", "make 0 new 1", "split 0 ~!@#$%^&*( 1", "call - 0", "call done", "call abcdefghij")
	checkCode(t, "query 0 0\nnew 0\n", codeAt(2))
	checkCode(t, "query 64 0\nnew 63\n", fine)
	checkCode(t, "query 64 0\nnew 64\n", codeAt(2))
	checkCode(t, "pred p 3\nclause 1\nnew 1\nquery 2 0\n", codeAt(3))
}

// TestConstantWords: P11: numbers of 64 bits as they are written, and names.
func TestConstantWords(t *testing.T) {
	for _, op := range []string{"put 0 ", "const 0 "} {
		for _, word := range strings.Split("0 1 -1 10 9223372036854775807 -9223372036854775808 99999999999 a A _ - + +1 [] . ! ~ a-b mod abcdefghij {}", " ") {
			checkInstructions(t, true, op+word)
		}
		for _, word := range strings.Split("00 01 -0 -01 -00 1a 1.5 1e3 0x1 1_0 -a -- -- 9223372036854775808 -9223372036854775809 99999999999999999999 -+1 abcdefghijk é \x7f a\x1f 18446744073709551616", " ") {
			checkInstructions(t, false, op+word)
		}
	}
}

// TestCodeLength: P11: 65,536 bytes are a code, if they are one, and one more is none, whatever they are.
func TestCodeLength(t *testing.T) {
	full := "query 0 0\ndone\ntry 0\n" + strings.Repeat("done\n", 13103)
	if len(full) != api.MaxCode {
		t.Fatal(len(full))
	}
	checkCode(t, full, fine)
	checkCode(t, full[:len(full)-1], codeAt(13106))
	checkCode(t, full[:len(full)-1]+"x", codeAt(13106))
	checkCode(t, full[:len(full)-1]+" ", codeAt(13106))
	checkCode(t, "x"+full[1:], codeAt(1))
	checkCode(t, strings.Repeat("\n", api.MaxCode), codeAt(1))
	checkCode(t, strings.Repeat("x", api.MaxCode), codeAt(1))
	for _, long := range []string{full + "\n", "x" + full, full + full, strings.Repeat("x", api.MaxCode+1), strings.Repeat("\n", api.MaxCode+1)} {
		checkCode(t, long, fault{api.ErrLong, 0})
	}
	checkTold(t, "P11", run(t, full), "true; none")
}

// TestRunSideBySide: P1: queries under way, of one code and of others, know nothing of one another.
func TestRunSideBySide(t *testing.T) {
	code := "pred n 1;clause 1;const 0 0;ret;clause 2;new 1;call n 1;make 1 s 1;same 0 1;ret;query 2 2;new 0;split 0 f 1 1;call n 1;done;"
	want := strings.Split("f(_1,0), 0; f(_1,s(0)), s(0); f(_1,s(s(s(0)))), s(s(s(0)))", "; ")
	var queries []*horn.Query
	for range 5 {
		queries = append(queries, run(t, code))
	}
	ended := run(t, "query 1 1;put 0 a;done;")
	done := make([]int, len(queries))
	for turn := range 9 {
		for i, query := range queries {
			if (turn+i)%3 != 0 {
				continue
			}
			if got := told(t, query); got != want[done[i]] {
				t.Fatalf("P1: query %d, answer %d: got %s, want %s", i, done[i], got, want[done[i]])
			}
			done[i]++
		}
		if got := told(t, ended); (got == "a") != (turn == 0) || got != "a" && got != "none" {
			t.Errorf("P1: turn %d: %s", turn, got)
		}
	}
}

// TestRunAsAsked: P12: a program written as a code has the answers that it has by walking.
func TestRunAsAsked(t *testing.T) {
	app := "pred app 3;clause 4;const 0 [];same 1 2;ret;clause 7;split 0 . 3 4;split 2 . 6 5;same 3 6;call app 4 1 5;ret;"
	anc := "pred p 2;clause 2;const 0 a;const 1 b;ret;clause 2;const 0 b;const 1 c;ret;clause 2;const 0 c;const 1 d;ret;pred anc 2;clause 2;call p 0 1;ret;clause 3;new 2;call p 0 2;call anc 2 1;ret;"
	cut := "pred t 1;clause 5;mark 1;level 2;try 8;test true;cut 2;cut 2;const 0 1;ret;const 0 2;ret;clause 1;const 0 3;ret;"
	for _, c := range []struct{ program, question, code string }{
		{lists, "app(X,Y,[1,2]).", app + "query 5 2;new 0;new 1;put 2 [];put 3 2;make 2 . 3 2;put 3 1;make 2 . 3 2;call app 0 1 2;done;"},
		{lists, "app(X,[b],[a|Y]).", app + "query 5 2;new 0;new 1;put 2 b;put 3 [];make 2 . 2 3;put 3 a;make 3 . 3 1;call app 0 2 3;done;"},
		{family, "anc(X,Y).", anc + "query 2 2;new 0;new 1;call anc 0 1;done;"},
		{family, "anc(X,d).", anc + "query 2 1;new 0;put 1 d;call anc 0 1;done;"},
		{"t(X) :- (true, ! -> X = 1 ; X = 2). t(3).", "t(X).", cut + "query 1 1;new 0;call t 0;done;"},
	} {
		asked, begun := ask(t, load(t, c.program), c.question), run(t, c.code)
		for range 8 {
			want, got := told(t, asked), told(t, begun)
			for _, name := range []string{"X = ", "Y = "} {
				want = strings.ReplaceAll(want, name, "")
			}
			if got != want {
				t.Errorf("P12: %q: got %s, want %s", c.question, got, want)
			}
		}
	}
}

// someCode makes a code of one line behind another by a fixed rule.
func someCode(state *uint32) string {
	pick := func(n int) int {
		*state = *state*1664525 + 1013904223
		return int(*state>>8) % n
	}
	words := strings.Split("new put const same make split test mark level cut try jump call ret done pred clause query 0 1 2 3 64 a f . + p q = is var -1", " ")
	good := strings.Split("new 0;new 1;new 2;put 0 a;const 1 a;same 0 1;same 1 2;make 0 f 1 2;make 1 . 0 0;split 0 f 1 1;split 2 f 0 1;test = 0 1;test var 2;mark 2;level 1;cut 2;try 1;try 4;jump 3;call p 0;call p 1;call q;ret;done", ";")
	var code strings.Builder
	code.WriteString("pred p 1\nclause 3\nnew 1\nnew 2\n")
	queried := false
	for range 3 + pick(20) {
		switch n := pick(60); {
		case n == 0:
			for range 1 + pick(4) {
				code.WriteString(words[pick(len(words))] + " ")
			}
		case n == 1:
			code.WriteString("clause 3")
		case n < 5 && !queried:
			code.WriteString("query 3 3")
			queried = true
		default:
			code.WriteString(good[pick(len(good))])
		}
		code.WriteByte('\n')
	}
	if !queried {
		code.WriteString("query 3 2\nnew 0\nnew 1\nnew 2\ncall p 0\ndone\n")
	}
	return code.String()
}

// TestCodeSweep: P1, P11, P12: of many codes: every call ends with an answer or just one error, and again with the same.
func TestCodeSweep(t *testing.T) {
	state, begun := uint32(1), 0
	for range 500 {
		code := someCode(&state)
		first, err := horn.Run(code)
		second, again := horn.Run(code)
		if errno, place := api.Tell(err); err != nil {
			if e, at := api.Tell(again); errno != api.ErrCode || place < 1 || place > strings.Count(code, "\n")+1 || e != errno || at != place || first != nil || second != nil {
				t.Errorf("P11: Run(%q): %v, %v", code, err, again)
			}
			continue
		}
		begun++
		for i := range 4 {
			if a, b := told(t, first), told(t, second); a != b {
				t.Errorf("P1: Run(%q), %s: %s, then %s", code, strconv.Itoa(i), a, b)
			}
		}
	}
	if begun < 150 {
		t.Errorf("only %d of the codes are any", begun)
	}
}
