package code

import (
	"reflect"
	"strings"
	"testing"

	"horn/api"
	"horn/clause"
	"horn/term"
)

func read(t *testing.T, text string) *Code {
	t.Helper()
	code, err := Read(strings.ReplaceAll(text, ";", "\n"))
	if err != nil {
		t.Fatalf("%q: %v", text, err)
	}
	return code
}

// TestRead: P11: predicates with their clauses in order, and the query.
func TestRead(t *testing.T) {
	got := read(t, "pred p 1;clause 1;const 0 1;ret;clause 2;const 0 2;ret;pred q 0;pred p 0;clause 0;query 3 2;new 0;call p 0;done;")
	want := &Code{
		Predicates: map[clause.Predicate][]*Block{
			{Name: "p", Arity: 1}: {
				{Slots: 1, Instructions: []Instruction{Const{Slot: 0, Constant: term.Number(1)}, Ret{}}},
				{Slots: 2, Instructions: []Instruction{Const{Slot: 0, Constant: term.Number(2)}, Ret{}}},
			},
			{Name: "q", Arity: 0}: nil,
			{Name: "p", Arity: 0}: {{Slots: 0}},
		},
		Query: &Block{Slots: 3, Instructions: []Instruction{New{Slot: 0}, Call{Predicate: clause.Predicate{Name: "p", Arity: 1}, Slots: []int{0}}, Done{}}},
		Told:  2,
	}
	if !reflect.DeepEqual(got, want) {
		t.Errorf("got %v, want %v", got, want)
	}
}

// TestInstructions: P11: what the words of each mean.
func TestInstructions(t *testing.T) {
	for line, want := range map[string]Instruction{
		"new 3":             New{Slot: 3},
		"put 3 -5":          Put{Slot: 3, Constant: term.Number(-5)},
		"put 3 -":           Put{Slot: 3, Constant: term.Atom("-")},
		"const 3 []":        Const{Slot: 3, Constant: term.Empty},
		"same 1 2":          Same{Left: 1, Right: 2},
		"make 1 f 2 3":      Make{Slot: 1, Name: "f", Slots: []int{2, 3}},
		"make 1 f 3 2 3 3":  Make{Slot: 1, Name: "f", Slots: []int{3, 2}, Order: []int{0, 1, 0, 0}},
		"split 1 f 2 3":     Split{Slot: 1, Name: "f", Arity: 2, Slots: []int{2, 3}, Last: []int{0, 1}},
		"split 1 f 3 2 3 1": Split{Slot: 1, Name: "f", Arity: 4, Slots: []int{3, 2, 1}, Last: []int{2, 1, 3}, Order: []int{term.Unmet, term.Unmet, term.Unmet, term.Unmet}},
		"test =:= 3 2":      Test{Name: "=:=", Slots: []int{3, 2}},
		"test true":         Test{Name: "true"},
		"mark 3":            Mark{Slot: 3},
		"level 3":           Level{Slot: 3},
		"cut 3":             Cut{Slot: 3},
		"try 9999":          Try{Place: 9999},
		"jump 9998":         Jump{Place: 9998},
		"call p":            Call{Predicate: clause.Predicate{Name: "p"}},
		"call p 3 2 3":      Call{Predicate: clause.Predicate{Name: "p", Arity: 3}, Slots: []int{3, 2, 3}},
		"ret":               Ret{},
		"done":              Done{},
	} {
		if got := read(t, "query 4 0;"+line+";").Query.Instructions; !reflect.DeepEqual(got, []Instruction{want}) {
			t.Errorf("%s: got %v, want %v", line, got, want)
		}
	}
}

// TestTable: P11: no instruction is left out, and none is there that the document does not name.
func TestTable(t *testing.T) {
	names := strings.Fields("new put const same make split test mark level cut try jump call ret done")
	table := instructions()
	for _, name := range names {
		if table[name] == nil {
			t.Errorf("%s is not there", name)
		}
	}
	if len(table) != len(names) {
		t.Errorf("%d instructions", len(table))
	}
}

// TestEachOnce: P11: the last place of a slot counts.
func TestEachOnce(t *testing.T) {
	for _, c := range []struct{ row, slots, last []int }{
		{[]int{5}, []int{5}, []int{0}}, {[]int{5, 5, 5}, []int{5}, []int{2}}, {[]int{0, 63, 0, 7}, []int{0, 63, 7}, []int{2, 1, 3}}, {[]int{3, 2, 1}, []int{3, 2, 1}, []int{0, 1, 2}},
	} {
		if slots, last := eachOnce(c.row); !reflect.DeepEqual(slots, c.slots) || !reflect.DeepEqual(last, c.last) {
			t.Errorf("%v: %v, %v", c.row, slots, last)
		}
	}
}

// TestNames: P11: 1 to 10 signs, no digit first, and `-` first only alone.
func TestNames(t *testing.T) {
	for sign := range 256 {
		first, second := isName(string([]byte{byte(sign)})), isName(string([]byte{'a', byte(sign)}))
		seen := sign >= 33 && sign <= 126
		if first != (seen && (sign < '0' || sign > '9')) || second != seen {
			t.Errorf("P11: sign %d: %v, %v", sign, first, second)
		}
	}
	if isName("") || isName("-a") || isName("--") || isName("1a") || !isName("a-") {
		t.Error("P11: names")
	}
	if !isName(strings.Repeat("a", 10)) || isName(strings.Repeat("a", 11)) {
		t.Error("P11: ten signs")
	}
}

// TestFaults: P11: with a fault there is no code.
func TestFaults(t *testing.T) {
	for text, want := range map[string]api.At{
		"": {Err: api.ErrCode, Place: 1}, "query 0 0\nnew 0\n": {Err: api.ErrCode, Place: 2}, "query 0 0\ndone": {Err: api.ErrCode, Place: 2}, strings.Repeat("x", api.MaxCode+1): {Err: api.ErrLong, Place: 0},
	} {
		code, err := Read(text)
		if errno, place := api.Tell(err); code != nil || errno != want.Err || place != want.Place {
			t.Errorf("P11: %v, %v", code, err)
		}
	}
}
