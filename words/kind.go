package words

import (
	"strings"

	"newel/api"
	"newel/chars"
)

// word answers what a part counts as; numbered: a number was parted off right behind it.
func word(part string, dashed, numbered bool) api.Word {
	if part == "" || chars.Digit(part[0]) {
		return number(part, dashed)
	}
	kind := namedKind(part)
	if numbered && kind == api.Other {
		kind = shortKind(part)
	}
	if kind == api.Other {
		return api.Word{Kind: kind, Text: part}
	}
	return api.Word{Kind: kind}
}

// number takes a part with nothing in it for 0, as it does one of noughts alone.
func number(digits string, dashed bool) api.Word {
	text := strings.TrimLeft(digits, "0")
	switch {
	case text == "":
		return api.Word{Kind: api.Nothing}
	case dashed:
		return api.Word{Kind: api.Dashed, Text: text}
	}
	return api.Word{Kind: api.Dotted, Text: text}
}

func namedKind(part string) int {
	switch part {
	case "alpha":
		return api.Alpha
	case "beta":
		return api.Beta
	case "milestone":
		return api.Milestone
	case "rc", "cr":
		return api.Candidate
	case "snapshot":
		return api.Snapshot
	case "ga", "final", "release":
		return api.Nothing
	case "sp":
		return api.Pack
	}
	return api.Other
}

// shortKind is for parts with a number right behind them: elsewhere these are letters like others.
func shortKind(part string) int {
	switch part {
	case "a":
		return api.Alpha
	case "b":
		return api.Beta
	case "m":
		return api.Milestone
	}
	return api.Other
}
