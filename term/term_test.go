package term

import (
	"math"
	"slices"
	"testing"
)

func of(name string, args ...Term) Term { return &Compound{Name: name, Args: args} }

// TestForm: P4, also of names that no text has, but a code does.
func TestForm(t *testing.T) {
	x, y := &Var{Name: "X"}, &Var{Name: "X"}
	for _, c := range []struct {
		of   Term
		want string
	}{
		{Atom("a"), "a"},
		{Empty, "[]"},
		{Number(0), "0"},
		{Number(math.MinInt64), "-9223372036854775808"},
		{Number(math.MaxInt64), "9223372036854775807"},
		{of("f", x, y, x), "f(_1,_2,_1)"},
		{of("+", x, of("*", y, x)), "_1+_2*_1"},
		{of("*", of("+", x, y), x), "(_1+_2)*_1"},
		{of("-", of("-", x, y), of("-", x, y)), "_1-_2-(_1-_2)"},
		{of("//", of("mod", x, y), of("mod", x, y)), "_1 mod _2//(_1 mod _2)"},
		{of("mod", of("-", x, y), Number(-1)), "(_1-_2) mod -1"},
		{of("-", Number(-1), Number(-1)), "-1--1"},
		{of("+", Atom("a")), "+(a)"},
		{of("mod", Atom("a"), Atom("b"), Atom("c")), "mod(a,b,c)"},
		{of("=", Atom("a"), Atom("b")), "=(a,b)"},
		{of(".", Atom("a")), ".(a)"},
		{of(".", x, y), "[_1|_2]"},
		{of(".", x, Empty), "[_1]"},
		{of(".", x, of(".", of("+", x, y), of("-", y, x))), "[_1,_1+_2|_2-_1]"},
		{of(".", of(".", x, Empty), of(".", y, of(".", x))), "[[_1],_2|.(_1)]"},
		{of("*", of(".", x, Empty), of("f", of("+", x, x))), "[_1]*f(_1+_1)"},
	} {
		if got := Form(c.of); got != c.want {
			t.Errorf("got %q, want %q", got, c.want)
		}
	}
}

// TestWriterNumbers: the numbers of variables go on from term to term.
func TestWriterNumbers(t *testing.T) {
	x, y := &Var{}, &Var{}
	w := NewWriter(func(int) {})
	w.Term(of("f", y))
	w.Term(of("g", x, y))
	if got := w.Text(); got != "f(_1)g(_2,_1)" {
		t.Error(got)
	}
}

func TestList(t *testing.T) {
	a, b := Atom("a"), Atom("b")
	if got := Form(List([]Term{a, b}, Number(1))); got != "[a,b|1]" {
		t.Error(got)
	}
	if got := List(nil, a); got != a {
		t.Error(Form(got))
	}
}

func TestFromBehind(t *testing.T) {
	a, b, c := Atom("a"), Atom("b"), Atom("c")
	all := []Term{a, b, c}
	if got := slices.Collect(fromBehind(all)); !slices.Equal(got, []Term{c, b, a}) {
		t.Error(got)
	}
	for got := range fromBehind(all) {
		if got != c {
			t.Error(got)
		}
		break
	}
}

// TestResolve: a variable is its value, as far as it goes, also where it is written.
func TestResolve(t *testing.T) {
	a, free := Atom("a"), &Var{}
	x := &Var{Value: &Var{Value: a}}
	sum, rest := &Var{Value: of("+", x, free)}, &Var{Value: &Var{Value: of(".", x, &Var{Value: Empty})}}
	if Resolve(x) != a || Resolve(free) != free || Resolve(a) != a {
		t.Error("resolved otherwise")
	}
	for _, c := range []struct {
		of   Term
		want string
	}{
		{x, "a"}, {of("f", free, x), "f(_1,a)"}, {of("*", sum, sum), "(a+_1)*(a+_1)"}, {of("+", sum, sum), "a+_1+(a+_1)"}, {of(".", free, rest), "[_1,a]"}, {of(".", free, &Var{Value: free}), "[_1|_1]"},
	} {
		if got := Form(c.of); got != c.want {
			t.Errorf("got %q, want %q", got, c.want)
		}
	}
}

// TestWith: other variables in the place of a term's own, and the term as it was.
func TestWith(t *testing.T) {
	read := of("f", &Var{Index: 1}, of("g", &Var{Index: 0}, Atom("a")), Number(1), &Var{Index: 1})
	vars := make([]Var, 2)
	vars[0].Value = Number(7)
	made := With(read, vars)
	if got := Form(made); got != "f(_1,g(7,a),1,_1)" {
		t.Error(got)
	}
	vars[1].Value = Empty
	if got := Form(made); got != "f([],g(7,a),1,[])" {
		t.Error(got)
	}
	if got := Form(read); got != "f(_1,g(_2,a),1,_3)" {
		t.Error(got)
	}
}

// TestWriterCounts: P10: each term that is written; of a list it, its elements, and a rest behind a bar.
func TestWriterCounts(t *testing.T) {
	a := Atom("a")
	for _, c := range []struct {
		of   Term
		want int
	}{
		{a, 1}, {&Var{Value: a}, 1}, {of("f", a, &Var{}), 3}, {of("+", a, of("*", a, a)), 5}, {Empty, 1}, {List([]Term{a, a}, Empty), 3}, {List([]Term{a, a}, a), 4}, {List([]Term{List([]Term{a}, Empty)}, of("f", a)), 5},
	} {
		counted := 0
		w := NewWriter(func(int) { counted++ })
		w.Term(c.of)
		if counted != c.want {
			t.Errorf("P10: %s: %d", w.Text(), counted)
		}
	}
}

// TestOrder: P11: what stands in a row more than once is one thing, and the row is none the shorter.
func TestOrder(t *testing.T) {
	x, a := &Var{}, Atom("a")
	row := &Compound{Name: "f", Args: []Term{x, a}, Order: []int{1, 0, 1, 0, 0}}
	if row.Arity() != 5 || row.Arg(0) != a || row.Arg(1) != x || row.Arg(4) != x {
		t.Error("another row")
	}
	for _, c := range []struct {
		of   Term
		want string
	}{
		{row, "f(a,_1,a,_1,_1)"},
		{&Compound{Name: "+", Args: []Term{x}, Order: []int{0, 0}}, "_1+_1"},
		{&Compound{Name: "*", Args: []Term{of("+", x, a)}, Order: []int{0, 0}}, "(_1+a)*(_1+a)"},
		{&Compound{Name: Cell, Args: []Term{Empty}, Order: []int{0, 0}}, "[[]]"},
		{&Compound{Name: "+", Args: []Term{x, a}, Order: []int{0, 1, 0}}, "+(_1,a,_1)"},
		{&Compound{Name: "f", Args: []Term{x}, Order: []int{0}}, "f(_1)"},
	} {
		if got := Form(c.of); got != c.want {
			t.Errorf("got %q, want %q", got, c.want)
		}
	}
}

// TestUnmet: P11: variables that nothing has asked for are new, each another one, and stay the same from then on.
func TestUnmet(t *testing.T) {
	order := []int{Unmet, Unmet, Unmet}
	row, other := &Compound{Name: "f", Order: order}, &Compound{Name: "f", Order: order}
	last := row.Arg(2)
	if row.Arity() != 3 || len(row.Args) != 1 || row.Arg(2) != last || row.Arg(0) == last || other.Arg(2) == last {
		t.Error("another row")
	}
	last.(*Var).Value = Number(1)
	if got := Form(of("g", row, other, row)); got != "g(f(_1,_2,1),f(_3,_4,_5),f(_1,_2,1))" {
		t.Error(got)
	}
	if !slices.Equal(order, []int{Unmet, Unmet, Unmet}) || len(row.Args) != 3 {
		t.Error(order, len(row.Args))
	}
}

// TestAnswer: P6, P13: terms with their names, without those with `_`, or by themselves.
func TestAnswer(t *testing.T) {
	x, y := &Var{}, &Var{Value: Number(1)}
	terms := []Term{x, of("f", y, x), &Var{}}
	for want, names := range map[string][]string{
		"X = _1, Y = f(1,_1), Z = _2": {"X", "Y", "Z"}, "Y = f(1,_1), Z = _2": {"_X", "Y", "Z"}, "Y = f(1,_1)": {"_", "Y", "_"}, "true": {"_", "_Y", "_"}, "_1, f(1,_1), _2": {"", "", ""},
	} {
		if got := NewWriter(func(int) {}).Answer(names, terms); got != want {
			t.Errorf("P6: %v: %s", names, got)
		}
	}
	if got := NewWriter(func(int) {}).Answer(nil, nil); got != "true" {
		t.Errorf("P6: %s", got)
	}
}

// TestWriterDepths: how deep each term stands is told with it; the rest of a list stands no deeper than its elements.
func TestWriterDepths(t *testing.T) {
	a := Atom("a")
	for _, c := range []struct {
		of   Term
		want []int
	}{
		{a, []int{0}}, {of("f", a, of("g", a), a), []int{0, 1, 1, 2, 1}}, {of("+", of("*", a, a), a), []int{0, 1, 2, 2, 1}}, {List([]Term{a, of("f", a), a}, a), []int{0, 1, 1, 2, 1, 1}},
	} {
		var got []int
		w := NewWriter(func(depth int) { got = append(got, depth) })
		if w.Term(c.of); !slices.Equal(got, c.want) {
			t.Errorf("%s: %v", w.Text(), got)
		}
	}
}
