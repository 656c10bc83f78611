package lex

import (
	"strings"

	"foundry/api"
	"foundry/floats"
	"foundry/ints"
	"foundry/names"
)

const (
	remark = "//"
	exact  = "0x" // what a Float begins with that is written by its bits
)

// What a byte may stand in: one or more of these.
const (
	inNumber = 1 << iota // decimal digits
	inExact              // what stands behind `0x`
	inName
)

// partsOf: all that a byte may stand in. It falls through, since a digit may stand in all three, and a letter that may stand behind `0x` in a name too.
func partsOf(b byte) int {
	parts := 0
	switch {
	case '0' <= b && b <= '9':
		parts |= inNumber
		fallthrough
	case 'a' <= b && b <= 'f', b == 'p':
		parts |= inExact
		fallthrough
	case 'a' <= b && b <= 'z', 'A' <= b && b <= 'Z', b == '_':
		parts |= inName
	case b == '.', b == '+', b == '-':
		parts |= inExact
	}
	return parts
}

// runEnd: the end of the bytes from at on that may all stand in such a part.
func runEnd(text string, at, part int) int {
	for at < len(text) && partsOf(text[at])&part != 0 {
		at++
	}
	return at
}

// gapEnd: the end of the blanks and remarks that stand from at on.
func gapEnd(text string, at int) int {
	for at < len(text) {
		switch {
		case isBlank(text[at]):
			at++
		case strings.HasPrefix(text[at:], remark):
			at = remarkEnd(text, at)
		default:
			return at
		}
	}
	return at
}

func isBlank(b byte) bool {
	switch b {
	case ' ', '\t', '\n', '\r':
		return true
	}
	return false
}

// remarkEnd: the byte 10 that ends the remark, or the end of the text.
func remarkEnd(text string, at int) int {
	for at < len(text) && text[at] != '\n' {
		at++
	}
	return at
}

// tokenAt: the token that begins at a place, or why none that is right does.
func tokenAt(text string, at int) (Token, api.Errno) {
	kind, end := longest(text, at)
	if end == at {
		return Token{}, api.ErrToken
	}
	t := Token{Kind: kind, Text: text[at:end], At: at}
	var e api.Errno
	t.Value, e = meaning(kind, t.Text)
	return t, e
}

// longest: the kind and the end of the longest token that can begin at a place; that place as its end, if there is none.
func longest(text string, at int) (int, int) {
	parts := partsOf(text[at])
	switch {
	case parts&inNumber != 0:
		return longestNumber(text, at)
	case parts&inName != 0:
		end := runEnd(text, at, inName)
		if names.Reserved(text[at:end]) {
			return Word, end
		}
		return Name, end
	}
	return Mark, at + markSize(text[at:])
}

func longestNumber(text string, at int) (int, int) {
	if strings.HasPrefix(text[at:], exact) {
		return Float, runEnd(text, at+len(exact), inExact)
	}
	whole := runEnd(text, at, inNumber)
	if !strings.HasPrefix(text[whole:], ".") {
		return Int, whole
	}
	behind := whole + len(".")
	end := runEnd(text, behind, inNumber)
	if end == behind {
		// The point is a Mark of its own.
		return Int, whole
	}
	return Float, end
}

// markSize: how many bytes the Mark has with which the text begins; 0, if there is none.
func markSize(text string) int {
	switch text[:min(2, len(text))] {
	case "<=", ">=", "==", "!=", "&&", "||":
		return 2
	}
	switch text[0] {
	case '(', ')', '{', '}', ',', ';', ':', '.', '=', '+', '-', '*', '/', '%', '<', '>', '!':
		return 1
	}
	return 0
}

// meaning: the Value of a token of that kind and text, or what is wrong with it.
func meaning(kind int, text string) (api.Value, api.Errno) {
	switch kind {
	case Name:
		if len(text) > api.MaxName {
			return api.Value{}, api.ErrName
		}
	case Int:
		n, _, e := ints.Natural(withoutNoughts(text))
		return valueOf(api.TInt, uint64(n), e)
	case Float:
		read := floats.Literal
		if strings.HasPrefix(text, exact) {
			read = floats.Parse
		}
		bits, e := read(text)
		return valueOf(api.TFloat, bits, e)
	}
	return api.Value{}, api.OK
}

func valueOf(valueType int, bits uint64, e api.Errno) (api.Value, api.Errno) {
	if e != api.OK {
		return api.Value{}, e
	}
	return api.Value{Type: valueType, Bits: bits}, api.OK
}

// withoutNoughts: the digits without the noughts ahead, which an Int may have and ints.Natural does not take.
func withoutNoughts(digits string) string {
	for len(digits) > 1 && digits[0] == '0' {
		digits = digits[1:]
	}
	return digits
}
