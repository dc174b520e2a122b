package term

import (
	"math"
	"slices"
	"testing"
)

func of(name string, args ...Term) Term { return &Compound{Name: name, Args: args} }

// TestForm: P4, also of names that no text has, but a code does.
func TestForm(t *testing.T) {
	x, y := &Var{Name: "X"}, &Var{Name: "X"}
	for _, c := range []struct {
		of   Term
		want string
	}{
		{Atom("a"), "a"},
		{Empty, "[]"},
		{Number(0), "0"},
		{Number(math.MinInt64), "-9223372036854775808"},
		{Number(math.MaxInt64), "9223372036854775807"},
		{of("f", x, y, x), "f(_1,_2,_1)"},
		{of("+", x, of("*", y, x)), "_1+_2*_1"},
		{of("*", of("+", x, y), x), "(_1+_2)*_1"},
		{of("-", of("-", x, y), of("-", x, y)), "_1-_2-(_1-_2)"},
		{of("//", of("mod", x, y), of("mod", x, y)), "_1 mod _2//(_1 mod _2)"},
		{of("mod", of("-", x, y), Number(-1)), "(_1-_2) mod -1"},
		{of("-", Number(-1), Number(-1)), "-1--1"},
		{of("+", Atom("a")), "+(a)"},
		{of("mod", Atom("a"), Atom("b"), Atom("c")), "mod(a,b,c)"},
		{of("=", Atom("a"), Atom("b")), "=(a,b)"},
		{of(".", Atom("a")), ".(a)"},
		{of(".", x, y), "[_1|_2]"},
		{of(".", x, Empty), "[_1]"},
		{of(".", x, of(".", of("+", x, y), of("-", y, x))), "[_1,_1+_2|_2-_1]"},
		{of(".", of(".", x, Empty), of(".", y, of(".", x))), "[[_1],_2|.(_1)]"},
		{of("*", of(".", x, Empty), of("f", of("+", x, x))), "[_1]*f(_1+_1)"},
	} {
		if got := Form(c.of); got != c.want {
			t.Errorf("got %q, want %q", got, c.want)
		}
	}
}

// TestWriterNumbers: the numbers of variables go on from term to term.
func TestWriterNumbers(t *testing.T) {
	x, y := &Var{}, &Var{}
	w := NewWriter()
	w.Term(of("f", y))
	w.Term(of("g", x, y))
	if got := w.Text(); got != "f(_1)g(_2,_1)" {
		t.Error(got)
	}
}

func TestList(t *testing.T) {
	a, b := Atom("a"), Atom("b")
	if got := Form(List([]Term{a, b}, Number(1))); got != "[a,b|1]" {
		t.Error(got)
	}
	if got := List(nil, a); got != a {
		t.Error(Form(got))
	}
}

func TestFromBehind(t *testing.T) {
	a, b, c := Atom("a"), Atom("b"), Atom("c")
	all := []Term{a, b, c}
	if got := slices.Collect(fromBehind(all)); !slices.Equal(got, []Term{c, b, a}) {
		t.Error(got)
	}
	for got := range fromBehind(all) {
		if got != c {
			t.Error(got)
		}
		break
	}
}
