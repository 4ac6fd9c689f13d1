package chars

import (
	"strings"
	"testing"
)

const (
	spaces  = "\t\n\r "
	digits  = "0123456789"
	letters = "ABCDEFGHIJKLMNOPQRSTUVWXYZabcdefghijklmnopqrstuvwxyz"
)

func everyByte(visit func(c byte)) {
	for c := range 256 {
		visit(byte(c))
	}
}

// has asks a written-out list, so that a wrong bound in the program is not wrong here, too.
func has(list string, c byte) bool {
	return strings.IndexByte(list, c) >= 0
}

func TestSpace(t *testing.T) {
	everyByte(func(c byte) {
		if got, want := Space(c), has(spaces, c); got != want {
			t.Errorf("P1.1: Space(%d): %v; want %v", c, got, want)
		}
	})
}

func TestAllowed(t *testing.T) {
	everyByte(func(c byte) {
		if got, want := Allowed(c), has(spaces, c) || c >= 33; got != want {
			t.Errorf("P1.1: Allowed(%d): %v; want %v", c, got, want)
		}
	})
}

func TestDigit(t *testing.T) {
	everyByte(func(c byte) {
		if got, want := Digit(c), has(digits, c); got != want {
			t.Errorf("P1.1: Digit(%d): %v; want %v", c, got, want)
		}
	})
}

func TestNameByEachByte(t *testing.T) {
	everyByte(func(c byte) {
		s := string([]byte{c})
		begins := has(letters+"_", c)
		if got := Name(s); got != begins {
			t.Errorf("P1.1: Name(%q): %v; want %v", s, got, begins)
		}
		continues := begins || has(digits+"-.:", c)
		for _, s := range []string{"a" + s, "_" + s + "z", "Z9" + s + s} {
			if got := Name(s); got != continues {
				t.Errorf("P1.1: Name(%q): %v; want %v", s, got, continues)
			}
		}
	})
}

func TestName(t *testing.T) {
	right := []string{"project", "groupId", "_", "__", "xml:lang", "a-b.c:d_e", "Z9", "a.", "a-", "a:", strings.Repeat("n", 100_000)}
	for _, s := range right {
		if !Name(s) {
			t.Errorf("P1.1: Name(%.40q): false", s)
		}
	}
	wrong := []string{"", " ", "9", "9a", "-a", ".a", ":a", " a", "a ", "a b", "a\n", "a\x00", "a/b", "${a}", "\u00e4", "a\u00e4", "a\xff", strings.Repeat("n", 100_000) + "/"}
	for _, s := range wrong {
		if Name(s) {
			t.Errorf("P1.1: Name(%.40q): true", s)
		}
	}
}

func TestTrim(t *testing.T) {
	long := strings.Repeat(spaces, 50_000)
	cases := []struct{ in, want string }{
		{" a ", "a"},
		{"", ""},
		{" ", ""},
		{spaces, ""},
		{"a", "a"},
		{"a b", "a b"},
		{"  a", "a"},
		{"a  ", "a"},
		{spaces + "a" + spaces + "b" + spaces, "a" + spaces + "b"},
		{long, ""},
		{long + "a" + long, "a"},
		// These are Spaces elsewhere, but not here.
		{"\v \v", "\v \v"},
		{"\f", "\f"},
		{"\x00 ", "\x00"},
		{" \u00a0", "\u00a0"},
		{"\x85a\xa0", "\x85a\xa0"},
		{"\u2003a", "\u2003a"},
	}
	for _, c := range cases {
		if got := Trim(c.in); got != c.want {
			t.Errorf("P1.1: Trim(%.40q): %.40q; want %.40q", c.in, got, c.want)
		}
	}
}

func TestTrimByEachByte(t *testing.T) {
	everyByte(func(c byte) {
		s := string([]byte{c})
		want := s + "x" + s
		if has(spaces, c) {
			want = "x"
		}
		if got := Trim(" " + s + "x" + s + "\n"); got != want {
			t.Errorf("P1.1: Trim around the byte %d: %q; want %q", c, got, want)
		}
	})
}

// eachShortText goes through all texts of up to four bytes of a few: Spaces, and bytes beside them.
func eachShortText(visit func(s string)) {
	const bytes = "\t\r\n \va\x00\xa0"
	texts := []string{""}
	for length := 0; length <= 4; length++ {
		var longer []string
		for _, s := range texts {
			visit(s)
			for i := range len(bytes) {
				longer = append(longer, s+bytes[i:i+1])
			}
		}
		texts = longer
	}
}

func TestTrimmedHasNoSpaceAtItsEnds(t *testing.T) {
	eachShortText(func(s string) {
		got := Trim(s)
		if got != "" && (has(spaces, got[0]) || has(spaces, got[len(got)-1])) {
			t.Errorf("chapter 1, what follows: Trim(%q): %q", s, got)
		}
		if Trim(got) != got {
			t.Errorf("chapter 1, what follows: Trim(%q) is trimmed further", got)
		}
		if want := strings.Trim(s, spaces); got != want {
			t.Errorf("P1.1: Trim(%q): %q; want %q", s, got, want)
		}
	})
}

func TestLowerByEachByte(t *testing.T) {
	everyByte(func(c byte) {
		want := c
		if at := strings.IndexByte(letters[:26], c); at >= 0 {
			want = letters[26+at]
		}
		s := string([]byte{c, 'Q', c})
		if got := Lower(s); got != string([]byte{want, 'q', want}) {
			t.Errorf("P1.1: Lower(%q): %q", s, got)
		}
	})
}

func TestLower(t *testing.T) {
	cases := []struct{ in, want string }{
		{"", ""},
		{"1.0-RC", "1.0-rc"},
		{"SNAPSHOT", "snapshot"},
		{"already low", "already low"},
		{letters[:26], letters[26:]},
		{letters[26:], letters[26:]},
		{"[@`{", "[@`{"},
		{"\x00A\xff", "\x00a\xff"},
		{"\u00c4B", "\u00c4b"},
		// The sign for Kelvin is no letter of A to Z, though Unicode lowers it to one.
		{"\u212a", "\u212a"},
		{strings.Repeat("Ab", 50_000), strings.Repeat("ab", 50_000)},
	}
	for _, c := range cases {
		if got := Lower(c.in); got != c.want {
			t.Errorf("P1.1: Lower(%.40q): %.40q; want %.40q", c.in, got, c.want)
		}
	}
}
