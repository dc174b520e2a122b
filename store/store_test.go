package store

import (
	"errors"
	"math"
	"slices"
	"testing"

	"horn/api"
	"horn/term"
)

const plenty = 1000

func of(name string, args ...term.Term) term.Term { return &term.Compound{Name: name, Args: args} }

// TestSame: P7: what is made the same, what it binds, and that it is undone.
func TestSame(t *testing.T) {
	x, y := &term.Var{}, &term.Var{}
	a, one := term.Atom("a"), term.Number(1)
	for _, c := range []struct {
		a, b  term.Term
		want  bool
		bound int
	}{
		{a, a, true, 0}, {a, term.Atom("b"), false, 0}, {one, one, true, 0}, {one, a, false, 0}, {a, of("a", a), false, 0}, {of("a", a), a, false, 0},
		{x, x, true, 0}, {x, y, true, 1}, {x, a, true, 1}, {a, x, true, 1},
		{x, of("f", x), false, 0}, {of("f", y, x), x, false, 0}, {x, of("f", y), true, 1},
		{of("f", x), of("f", a), true, 1}, {of("f", x, x), of("f", a, one), false, 1}, {of("f", x), of("f", x, y), false, 0}, {of("f", x), of("g", x), false, 0},
		{of("f", x, y), of("f", of("g", y), x), false, 1},
	} {
		s := New(plenty)
		if got := s.Same(c.a, c.b); got != c.want || s.Mark() != c.bound {
			t.Errorf("P7: %s and %s: %v with %d bound", term.Form(c.a), term.Form(c.b), got, s.Mark())
		}
		s.Undo(0)
		if x.Value != nil || y.Value != nil || s.Mark() != 0 {
			t.Fatalf("P7: %s and %s: not undone", term.Form(c.a), term.Form(c.b))
		}
	}
}

// TestSameInOrder: P7, P10: of rows in which something stands more than once, each place is a pair, but is looked into once.
func TestSameInOrder(t *testing.T) {
	x, y := &term.Var{}, &term.Var{}
	row := &term.Compound{Name: "f", Args: []term.Term{x}, Order: []int{0, 0, 0}}
	for _, c := range []struct {
		a, b  term.Term
		want  bool
		count int
	}{
		{row, of("f", y, y, y), true, 4}, {row, of("f", y, term.Atom("a"), term.Number(1)), false, 4}, {row, of("f", x, x), false, 1}, {y, row, true, 2}, {x, row, false, 2}, {y, &term.Compound{Name: "f", Order: []int{term.Unmet, term.Unmet}}, true, 2}, {of("f", x, x), &term.Compound{Name: "f", Order: []int{term.Unmet, term.Unmet}}, true, 3}, {row, row, true, 4},
	} {
		s := New(plenty)
		if got := s.Same(c.a, c.b); got != c.want || plenty-s.left != c.count {
			t.Errorf("P7: %s and %s: %v, %d counted", term.Form(c.a), term.Form(c.b), got, plenty-s.left)
		}
		s.Undo(0)
	}
	met := &term.Compound{Name: "f", Order: []int{term.Unmet, term.Unmet}}
	if New(plenty).Same(met.Arg(1), met) {
		t.Error("P7: a variable that stands there became it")
	}
}

// TestSearch: P7: what fails goes back to the place that was put last, with all undone that was bound since; the stack is cut only if it is higher.
func TestSearch(t *testing.T) {
	x, y := &term.Var{}, &term.Var{}
	s := NewSearch[string](plenty)
	s.Put("first")
	s.Same(x, term.Number(1))
	s.Put("second")
	s.Same(y, term.Number(2))
	s.Cut(2)
	s.Cut(7)
	if s.Height() != 2 || s.Back() != "second" || x.Value == nil || y.Value != nil {
		t.Error("P7: not the second place")
	}
	s.Put("third")
	s.Put("fourth")
	s.Cut(1)
	if s.Height() != 1 || s.Back() != "first" || x.Value != nil || s.Height() != 0 {
		t.Error("P7: not the first place")
	}
	if place, err := Caught(s.Back); place != "" || err != api.ErrNone {
		t.Errorf("P7: %q, %v", place, err)
	}
}

// TestUndo: P7: only what was bound since is undone.
func TestUndo(t *testing.T) {
	x, y, z := &term.Var{}, &term.Var{}, &term.Var{}
	s := New(plenty)
	s.Same(x, y)
	mark := s.Mark()
	s.Same(y, term.Atom("a"))
	s.Same(z, x)
	if got := term.Form(of("f", x, y, z)); got != "f(a,a,a)" {
		t.Error(got)
	}
	s.Undo(mark)
	if got := term.Form(of("f", x, y, z)); got != "f(_1,_1,_2)" {
		t.Error(got)
	}
}

// TestDiffer: P8: nothing stays bound, whether it holds or not, and what was bound stays.
func TestDiffer(t *testing.T) {
	x, y := &term.Var{}, &term.Var{}
	s := New(plenty)
	s.Same(y, term.Number(7))
	if s.Test("\\=", []term.Term{x, y}) || !s.Test("\\=", []term.Term{of("f", x, y), of("f", y, x, x)}) || !s.Test("\\=", []term.Term{of("f", x, y), of("f", y, term.Number(8))}) {
		t.Error("P8")
	}
	if x.Value != nil || y.Value != term.Number(7) || s.Mark() != 1 {
		t.Error("P8: bound otherwise")
	}
}

// TestOperate: P9, at the ends of 64 bits.
func TestOperate(t *testing.T) {
	for _, c := range []struct {
		a    int64
		sign string
		b    int64
		want int64
	}{
		{math.MaxInt64, "+", 1, math.MinInt64}, {math.MinInt64, "-", 1, math.MaxInt64}, {math.MinInt64, "*", -1, math.MinInt64}, {math.MaxInt64, "*", 2, -2},
		{math.MinInt64, "//", -1, math.MinInt64}, {math.MinInt64, "//", 2, math.MinInt64 / 2}, {-1, "//", math.MaxInt64, 0},
		{math.MinInt64, "mod", -1, 0}, {math.MinInt64, "mod", math.MaxInt64, math.MaxInt64 - 1}, {math.MaxInt64, "mod", math.MinInt64, -1}, {-1, "mod", math.MinInt64, -1}, {1, "mod", math.MinInt64, math.MinInt64 + 1},
		{7, "mod", 3, 1}, {-7, "mod", 3, 2}, {7, "mod", -3, -2}, {-7, "mod", -3, -1},
	} {
		if got := operate(c.sign, c.a, c.b); got != c.want {
			t.Errorf("P9: %d %s %d: got %d, want %d", c.a, c.sign, c.b, got, c.want)
		}
	}
}

// TestValueOfNames: P9: a sign with another number of arguments, which only a code has, is no operation.
func TestValueOfNames(t *testing.T) {
	for _, of := range []term.Term{of("-", term.Number(1)), of("+", term.Number(1), term.Number(2), term.Number(3)), of("f", &term.Var{})} {
		_, err := Caught(func() string { New(plenty).value(of); return "value" })
		if !errors.Is(err, api.ErrType) {
			t.Errorf("P9: %s: %v", term.Form(of), err)
		}
	}
}

// TestCount: P10: how much each thing counts.
func TestCount(t *testing.T) {
	x, y := &term.Var{}, &term.Var{}
	a, one := term.Atom("a"), term.Number(1)
	for _, c := range []struct {
		name string
		args []term.Term
		want int
	}{
		{"true", nil, 0}, {"var", []term.Term{x}, 0},
		{"=", []term.Term{a, one}, 1}, {"=", []term.Term{x, a}, 1}, {"=", []term.Term{x, y}, 1}, {"=", []term.Term{of("f", a, a), of("f", a, a)}, 3}, {"=", []term.Term{of("f", a, a), of("f", one, a)}, 2}, {"=", []term.Term{of("f", a), of("g", a)}, 1},
		{"=", []term.Term{x, of("f", a, of("g", y))}, 3}, {"=", []term.Term{of("f", x), x}, 2}, {"\\=", []term.Term{x, of("f", a)}, 2},
		{"==", []term.Term{a, a}, 1}, {"==", []term.Term{of("f", x, y), of("f", x, y)}, 3}, {"==", []term.Term{of("f", x, y), of("f", y, y)}, 2},
		{"<", []term.Term{one, one}, 2}, {"<", []term.Term{of("+", one, of("*", one, one)), one}, 6}, {"is", []term.Term{x, of("-", one, one)}, 4},
	} {
		s := New(plenty)
		s.Test(c.name, c.args)
		if got := plenty - s.left; got != c.want {
			t.Errorf("P10: %s: got %d, want %d", c.name, got, c.want)
		}
		s.Undo(0)
	}
}

// TestFuel: P10: as much as may be done is done, and no more.
func TestFuel(t *testing.T) {
	s := New(2)
	for _, want := range []error{nil, nil, api.ErrFuel, api.ErrFuel} {
		answer, err := Caught(func() string { s.Count(); return "counted" })
		if err != want || (answer == "") != (err != nil) {
			t.Errorf("P10: %q, %v", answer, err)
		}
	}
}

// TestCaught: a panic that ends no query goes on.
func TestCaught(t *testing.T) {
	other := errors.New("other")
	defer func() {
		if caught := recover(); caught != other {
			t.Errorf("caught %v", caught)
		}
	}()
	Caught(func() string { panic(other) })
}

// joins is orders in which so many variables can be made one.
func joins(many int) map[string][][2]int {
	var up, down, halves [][2]int
	for i := range many - 1 {
		up = append(up, [2]int{i, i + 1})
		down = append(down, [2]int{many - i - 2, many - i - 1})
	}
	for size := 1; size < many; size *= 2 {
		for i := 0; i < many; i += 2 * size {
			halves = append(halves, [2]int{i, i + size})
		}
	}
	return map[string][][2]int{"up": up, "down": down, "halves": halves}
}

// TestJoin: P7: variables that are made one, in whatever order, are soon found to be, and each is by itself again when that is undone.
func TestJoin(t *testing.T) {
	const many, far = 1 << 12, 12
	for name, pairs := range joins(many) {
		for turn := range 2 {
			s, vars := New(2*many), make([]*term.Var, many)
			for i := range vars {
				vars[i] = &term.Var{}
			}
			for _, pair := range pairs {
				s.Same(vars[pair[turn]], vars[pair[1-turn]])
			}
			for _, v := range vars {
				steps := 0
				for at := v; at.Value != nil; at = at.Value.(*term.Var) {
					steps++
				}
				if steps > far || term.Resolve(v) != term.Resolve(vars[0]) {
					t.Fatalf("P7: %s: %d steps", name, steps)
				}
			}
			s.Undo(0)
			if i := slices.IndexFunc(vars, func(v *term.Var) bool { return v.Value != nil || v.Held != 0 }); i >= 0 {
				t.Errorf("P7: %s: %d is not undone", name, i)
			}
		}
	}
}

// nested is a name with arguments so many deep.
func nested(name string, deep int, bottom term.Term) term.Term {
	for range deep {
		bottom = of(name, bottom, term.Number(0))
	}
	return bottom
}

// TestDeep: P1, P10: terms that are as deep as can be within api.Fuel are gone into, but no call comes to grief of one that is deeper than there is room to go.
func TestDeep(t *testing.T) {
	x := &term.Var{}
	for name, do := range map[string]func(s *Store, t term.Term) bool{
		"same": func(s *Store, t term.Term) bool { return s.Same(t, t) }, "stands in": func(s *Store, t term.Term) bool { return s.Same(x, t) }, "==": func(s *Store, t term.Term) bool { return s.Test("==", []term.Term{t, t}) }, "value": func(s *Store, t term.Term) bool { return s.Test("=:=", []term.Term{t, t}) },
		"written": func(s *Store, t term.Term) bool {
			return term.NewWriter(s.CountAt).Answer([]string{""}, []term.Term{t}) != ""
		},
	} {
		for deep, want := range map[int]error{api.Fuel: nil, 2*api.Fuel - 1: nil, 3 * api.Fuel: api.ErrFuel, 1000000: api.ErrFuel} {
			s := New(100 * api.Fuel)
			_, err := Caught(func() string {
				if !do(s, nested("+", deep, term.Number(1))) || s.depth != 0 {
					t.Errorf("%s, %d deep: %d", name, deep, s.depth)
				}
				return ""
			})
			if err != want {
				t.Errorf("%s, %d deep: %v", name, deep, err)
			}
			s.Undo(0)
		}
	}
}
