package horn_test

import (
	"strings"
	"testing"

	"horn/api"
	"horn/horn"
)

// pieces is what the texts of the sweep are made of: every kind of token, and some that are none.
func pieces() []string {
	return strings.Split("a f( mod is true var X _ 0 12 ( ) [ ] , | ; ! - + * // = < :- -> \\+ @ 01 .", " ")
}

// sound holds what is true of every text: an error with a place in it and nothing else, or no error.
func sound(t *testing.T, call, text string, something bool, err error) {
	t.Helper()
	errno, place := api.Tell(err)
	switch errno {
	case api.OK:
		return
	case api.ErrSyntax, api.ErrName, api.ErrLimit:
		if place < 0 || place > len(text) || something {
			t.Errorf("P1: %s(%q): %v", call, text, err)
		}
	default:
		t.Errorf("P1: %s(%q): %v", call, text, err)
	}
}

func soundText(t *testing.T, base *horn.Base, text string) {
	t.Helper()
	form, err := horn.Read(text)
	sound(t, "Read", text, form != "", err)
	if err == nil {
		if again, err := horn.Read(form); again != form {
			t.Errorf("P4: Read(%q) = %q, which is read as %q, %v", text, form, again, err)
		}
	}
	loaded, err := horn.Load(text)
	sound(t, "Load", text, loaded != nil, err)
	for _, machine := range []bool{false, true} {
		query, err := base.Ask(text, machine)
		sound(t, "Ask", text, query != nil, err)
	}
	code, err := base.Code(text)
	sound(t, "Code", text, code != "", err)
	if err == nil {
		checkAlike(t, base, "", text, 3)
	}
}

// TestSweep: P1: all texts of three pieces, and long ones in which one piece follows another by a fixed rule.
func TestSweep(t *testing.T) {
	base, err := horn.Load("")
	if err != nil {
		t.Fatal(err)
	}
	all := pieces()
	for _, a := range all {
		for _, b := range all {
			for _, c := range all {
				soundText(t, base, a+" "+b+" "+c)
			}
		}
	}
	state := uint32(1)
	for range 20000 {
		var text strings.Builder
		for text.Len() < int(state>>24) {
			state = state*1664525 + 1013904223
			text.WriteString(all[int(state>>16)%len(all)])
			if state>>31 == 0 {
				text.WriteByte(' ')
			}
		}
		state = state*1664525 + 1013904223
		soundText(t, base, text.String())
	}
}

// TestAgain: P1: what a call answers hangs on its text alone, whatever was read ahead of it.
func TestAgain(t *testing.T) {
	for _, text := range []string{"f(X,_,Y,X)", "[A,B,C,D,E,F,G,H,I,J,K,L]", "f(", "((((((((a"} {
		first, firstErr := horn.Read(text)
		horn.Load("a(X) :- ((((((((b.")
		second, secondErr := horn.Read(text)
		if e, at := api.Tell(firstErr); first != second {
			t.Errorf("P1: Read(%q): %q, then %q", text, first, second)
		} else {
			check(t, "Read", text, secondErr, fault{e, at})
		}
	}
}
