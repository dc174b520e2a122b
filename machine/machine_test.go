package machine

import (
	"errors"
	"slices"
	"strings"
	"testing"

	"horn/api"
	"horn/code"
	"horn/store"
)

func begun(t *testing.T, text string) *Machine {
	t.Helper()
	m, err := Load(strings.ReplaceAll(text, ";", "\n"), nil)
	if err != nil {
		t.Fatalf("%q: %v", text, err)
	}
	return m
}

// needed tells how much is counted up to the n-th answer or end.
func needed(t *testing.T, text string, n int) int {
	t.Helper()
	for much := range most {
		m := begun(t, text)
		m.Store = store.New(much)
		var err error
		for left := n; left > 0 && err == nil; left-- {
			_, err = store.Caught(m.Answer)
		}
		if !errors.Is(err, api.ErrFuel) {
			return much
		}
	}
	return most
}

// TestCount: P13: each instruction counts one, and what P10 counts of terms, from the query's beginning on; nothing else does.
func TestCount(t *testing.T) {
	for text, want := range map[string][2]int{
		"query 0 0;":                                                {0, 0},
		"query 0 0;done;":                                           {1, 1},
		"query 0 0;try 1;done;":                                     {2, 3},
		"query 1 1;new 0;done;":                                     {3, 3},
		"query 2 2;new 0;put 1 a;done;":                             {5, 5},
		"query 1 1;new 0;make 0 f 0 0;done;":                        {6, 6},
		"query 1 1;put 0 [];make 0 . 0 0;done;":                     {5, 5},
		"query 1 0;new 0;const 0 a;done;":                           {4, 4},
		"query 2 0;new 0;new 1;same 0 1;done;":                      {5, 5},
		"query 2 0;new 0;new 1;make 1 f 1;same 0 1;done;":           {7, 7},
		"query 2 0;new 0;split 0 f 1 1;done;":                       {3, 3},
		"query 2 0;new 1;make 0 f 1 1;split 0 f 1 1;done;":          {4, 4},
		"query 1 0;put 0 1;test < 0 0;":                             {4, 4},
		"query 1 0;put 0 1;test =:= 0 0;done;":                      {5, 5},
		"query 1 0;new 0;test == 0 0;test var 0;done;":              {5, 5},
		"query 1 0;mark 0;level 0;cut 0;jump 4;done;":               {5, 5},
		"pred p 0;clause 0;ret;query 0 0;call p;done;":              {3, 3},
		"pred p 0;clause 0;ret;clause 0;ret;query 0 0;call p;done;": {3, 5},
		"pred p 1;clause 0;ret;query 1 0;call p 0;done;":            {3, 3},
		"pred p 0;query 0 0;call p;done;":                           {1, 1},
		"query 0 0;call p;done;":                                    {1, 1},
	} {
		if got := [2]int{needed(t, text, 1), needed(t, text, 2)}; got != want {
			t.Errorf("P13: %q: got %v, want %v", text, got, want)
		}
	}
}

// TestPlaces: P12: a place stays only while there are more clauses, and a cut leaves those that were there.
func TestPlaces(t *testing.T) {
	three := "pred p 1;clause 1;const 0 1;ret;clause 1;const 0 2;ret;clause 1;const 0 3;ret;"
	for text, want := range map[string]int{
		"query 0 0;done;": 0, "query 0 0;try 0;done;": 1, "query 0 0;try 9999;try 0;done;": 2, "query 1 0;try 0;level 0;try 0;cut 0;done;": 1, "query 1 0;try 0;mark 0;try 0;cut 0;done;": 0,
		three + "query 1 0;put 0 1;call p 0;done;": 1, three + "query 1 0;put 0 2;call p 0;done;": 1, three + "query 1 0;put 0 3;call p 0;done;": 0,
		"pred p 0;clause 0;ret;query 0 0;call p;done;": 0, "pred p 0;clause 1;mark 0;cut 0;ret;clause 0;ret;query 0 0;try 0;call p;done;": 1, "pred p 0;clause 1;level 0;try 0;cut 0;ret;clause 0;ret;query 0 0;try 0;call p;done;": 2,
	} {
		m := begun(t, text)
		if _, err := store.Caught(m.Answer); err != nil || m.Height() != want {
			t.Errorf("P12: %q: %d places, %v", text, m.Height(), err)
		}
	}
}

// TestSlots: P12: a frame has at least as many slots as arguments, and those behind the arguments are empty.
func TestSlots(t *testing.T) {
	for slots, want := range map[int]int{0: 2, 1: 2, 2: 2, 4: 4, 64: 64} {
		f := newFrame(&code.Block{Slots: slots}, []any{height(1), nil})
		if len(f.slots) != want || f.heightIn(0) != 1 || slices.IndexFunc(f.slots[1:], func(thing any) bool { return thing != nil }) >= 0 {
			t.Errorf("P12: %d slots: %v", slots, f.slots)
		}
	}
}

// TestCodeStays: P1: what a query does is not the code's, nor another query's.
func TestCodeStays(t *testing.T) {
	first := begun(t, "query 3 3;new 0;split 0 f 1 1;make 2 g 1 1;const 1 a;done;")
	for range 3 {
		if got := New(first.code, nil).Answer(); got != "f(_1,a), a, g(a,a)" {
			t.Errorf("P1: %s", got)
		}
	}
}

// TestBehind: P14: behind the end of the last call of a clause the machine goes on where the clause would, however many calls there are; ErrCode of ret in the query is told all the same.
func TestBehind(t *testing.T) {
	end := "pred c 0;clause 0;ret;clause 0;ret;"
	for text, want := range map[string][2]int{
		"pred a 0;clause 0;call b;ret;pred b 0;clause 0;call c;ret;" + end + "query 0 0;call a;done;":           {5, 7},
		"pred a 0;clause 0;call b;test true;ret;pred b 0;clause 0;call c;ret;" + end + "query 0 0;call a;done;": {7, 11},
		"pred a 0;clause 0;call b;ret;pred b 0;clause 0;call c;jump 2;ret;" + end + "query 0 0;call a;done;":    {7, 11},
	} {
		if got := [2]int{needed(t, text, 1), needed(t, text, 2)}; got != want {
			t.Errorf("P14: %q: got %v, want %v", text, got, want)
		}
	}
	for text, want := range map[string]api.Errno{
		end + "query 0 0;call c;ret;": api.ErrCode, end + "query 0 0;call c;": api.ErrCode, "pred a 0;clause 0;call c;" + end + "query 0 0;call a;done;": api.ErrCode, "pred a 0;clause 0;call c;ret;" + end + "query 0 0;call a;ret;": api.ErrCode, "pred a 0;clause 0;call a;ret;query 0 0;call a;done;": api.ErrFuel,
	} {
		if _, err := store.Caught(begun(t, text).Answer); !errors.Is(err, want) {
			t.Errorf("P12: %q: %v", text, err)
		}
	}
}

// TestNames: P14: an answer tells slots by their names, and not those with `_`.
func TestNames(t *testing.T) {
	read := begun(t, "query 4 3;new 0;put 1 a;make 2 f 0 0;done;").code
	for want, names := range map[string][]string{
		"_1, a, f(_1,_1)": nil, "X = _1, Y = a, Z = f(_1,_1)": {"X", "Y", "Z"}, "Y = a, Z = f(_1,_1)": {"_", "Y", "Z"}, "X = _1": {"X", "_Y", "_"}, "true": {"_", "_", "_"},
	} {
		if got := New(read, names).Answer(); got != want {
			t.Errorf("P14: %v: %s", names, got)
		}
	}
}

// TestBudget: P13, P14: how much may be done hangs on the greatest terms that a code makes, and is never more than a hundred times as much as by walking.
func TestBudget(t *testing.T) {
	build := func(many int) string { return strings.Repeat("put 0 a;new 0;make 0 f 0;", many) }
	for text, want := range map[string]int{
		"query 0 0;done;": few, "query 1 0;" + build(1) + "done;": few + 3, "query 1 0;" + build(5) + "done;" + build(3): few + 15, "query 1 0;" + build(2) + "test true;" + build(3): few + 9, "pred p 0;clause 0;ret;clause 1;" + build(4) + "ret;query 1 0;new 0;done;": few + 12, "query 1 0;" + build(200): times,
	} {
		if m := begun(t, text); m.steps != want*api.Fuel {
			t.Errorf("%.60s: %d", text, m.steps)
		}
	}
	b := budget{steps: 2, room: 5}
	for i, c := range []struct {
		do   func()
		ends bool
	}{{b.step, false}, {b.step, false}, {b.step, true}, {func() { b.take(5) }, false}, {func() { b.take(0) }, false}, {func() { b.take(1) }, true}} {
		_, err := store.Caught(func() string { c.do(); return "" })
		if (err != nil) != c.ends {
			t.Errorf("%d: %v", i, err)
		}
	}
}
