package syntax

import (
	"strings"

	"horn/api"
)

type kind int

const (
	name kind = iota
	variable
	number
	sign // the point, too
	end
)

const maxDigits = 9

// token is a piece of a text. The texts of names, variables, numbers and signs are never the same, so that a text alone tells a token.
type token struct {
	kind  kind
	text  string
	place int
}

const point = "."

// signs in the order in which they count: a longer one ahead of those it begins with.
var signs = [...]string{
	"=:=", ":-", "->", "\\+", "\\=", "==", "=<", ">=", "//",
	"(", ")", "[", "]", ",", "|", ";", "!", "=", "<", ">", "+", "-", "*",
}

// split cuts a text into its tokens; the last one is the text's end.
func split(text string) []token {
	var tokens []token
	place := 0
scan:
	for place < len(text) {
		rest := text[place:]
		switch {
		case isBlank(rest[0]):
			place++
			continue scan
		case isWordByte(rest[0]):
			word := firstWord(rest)
			tokens = append(tokens, token{wordKind(word, place), word, place})
			place += len(word)
			continue scan
		case isPoint(rest):
			tokens = append(tokens, token{sign, point, place})
			place++
			continue scan
		}
		for _, s := range signs {
			if strings.HasPrefix(rest, s) {
				tokens = append(tokens, token{sign, s, place})
				place += len(s)
				continue scan
			}
		}
		panic(newFault(api.ErrSyntax, place))
	}
	return append(tokens, token{end, "", place})
}

// firstWord is a copy: names are kept longer than the text they came in.
func firstWord(text string) string {
	length := 0
	for length < len(text) && isWordByte(text[length]) {
		length++
	}
	return strings.Clone(text[:length])
}

// wordKind tells what a word is by its first byte, and holds it to the rules of its kind.
func wordKind(word string, place int) kind {
	is, fits := name, len(word) <= api.MaxName
	switch first := word[0]; {
	case isDigit(first):
		is, fits = number, isNumber(word)
	case isCapital(first) || first == '_':
		is = variable
	}
	if !fits {
		panic(newFault(api.ErrSyntax, place))
	}
	return is
}

func isNumber(word string) bool {
	for i := range len(word) {
		if !isDigit(word[i]) {
			return false
		}
	}
	return len(word) <= maxDigits && (word[0] != '0' || word == "0")
}

func isPoint(text string) bool {
	return text[0] == '.' && (len(text) == 1 || isBlank(text[1]))
}

func isBlank(b byte) bool   { return b == ' ' || b == '\n' }
func isDigit(b byte) bool   { return '0' <= b && b <= '9' }
func isCapital(b byte) bool { return 'A' <= b && b <= 'Z' }

func isWordByte(b byte) bool {
	return isDigit(b) || isCapital(b) || 'a' <= b && b <= 'z' || b == '_'
}
