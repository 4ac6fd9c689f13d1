// Package chars is layer 1, the bytes of texts: see shared/doc/01-chars.md.
// Texts are taken byte by byte, never as runes: bytes above 127 are neither letters nor Spaces.
package chars

// Space tells whether c is one of the four bytes that count as white space.
func Space(c byte) bool {
	return c == '\t' || c == '\n' || c == '\r' || c == ' '
}

// Allowed tells whether c may stand in a text.
func Allowed(c byte) bool {
	return Space(c) || c > ' '
}

// Digit tells whether c is a decimal digit.
func Digit(c byte) bool {
	return '0' <= c && c <= '9'
}

// Name tells whether s may name something: a letter or "_", and name bytes behind it.
func Name(s string) bool {
	if s == "" || !beginsName(s[0]) {
		return false
	}
	for i := 1; i < len(s); i++ {
		if !continuesName(s[i]) {
			return false
		}
	}
	return true
}

// Trim answers s without the Spaces at its beginning and its end.
func Trim(s string) string {
	return withoutEnd(withoutBeginning(s))
}

// Lower answers s with small letters in place of the great ones of A to Z.
func Lower(s string) string {
	b := []byte(s)
	for i, c := range b {
		if upper(c) {
			b[i] = c - 'A' + 'a'
		}
	}
	return string(b)
}

func upper(c byte) bool {
	return 'A' <= c && c <= 'Z'
}

func letter(c byte) bool {
	return upper(c) || 'a' <= c && c <= 'z'
}

func beginsName(c byte) bool {
	return letter(c) || c == '_'
}

func continuesName(c byte) bool {
	return beginsName(c) || Digit(c) || c == '-' || c == '.' || c == ':'
}

func withoutBeginning(s string) string {
	i := 0
again:
	if i < len(s) && Space(s[i]) {
		i++
		goto again
	}
	return s[i:]
}

func withoutEnd(s string) string {
	n := len(s)
again:
	if n > 0 && Space(s[n-1]) {
		n--
		goto again
	}
	return s[:n]
}
