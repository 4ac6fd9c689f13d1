package token

import (
	"strconv"
	"strings"
	"unicode/utf8"

	"newel/api"
)

// maxDigits is how many digits the number of an entity may have.
const maxDigits = 6

// Entities answers s with the character of each entity in its place. A character is never taken as a part of another entity.
func Entities(s string) (string, api.Errno) {
	var b strings.Builder
next:
	plain, rest, more := strings.Cut(s, "&")
	b.WriteString(plain)
	if !more {
		return b.String(), api.OK
	}
	body, rest, ended := strings.Cut(rest, ";")
	r, ok := character(body)
	if !ended || !ok {
		return "", api.ErrToken
	}
	b.WriteRune(r)
	s = rest
	goto next
}

// character answers the one that an entity stands for, by what is between its "&" and its ";".
func character(body string) (rune, bool) {
	switch body {
	case "lt":
		return '<', true
	case "gt":
		return '>', true
	case "amp":
		return '&', true
	case "quot":
		return '"', true
	case "apos":
		return '\'', true
	}
	if digits, ok := strings.CutPrefix(body, "#x"); ok {
		return numbered(digits, 16)
	}
	if digits, ok := strings.CutPrefix(body, "#"); ok {
		return numbered(digits, 10)
	}
	return 0, false
}

func numbered(digits string, base int) (rune, bool) {
	if len(digits) > maxDigits {
		return 0, false
	}
	n, err := strconv.ParseUint(digits, base, 32)
	r := rune(n)
	if err != nil || !mayStand(r) {
		return 0, false
	}
	return r, true
}

// mayStand leaves out what is no character in UTF-8, and the control characters that no file may have.
func mayStand(r rune) bool {
	return r == '\t' || r == '\n' || r == '\r' || r >= ' ' && utf8.ValidRune(r)
}
