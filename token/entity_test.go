package token

import (
	"strconv"
	"strings"
	"testing"
	"unicode/utf8"

	"newel/api"
)

func wantEntities(t *testing.T, s, want string) {
	t.Helper()
	if got, e := Entities(s); e != api.OK || got != want {
		t.Errorf("P2.1: Entities(%q): %q, error %d; want %q", s, got, e, want)
	}
}

func wantNoEntities(t *testing.T, s string) {
	t.Helper()
	if got, e := Entities(s); e != api.ErrToken || got != "" {
		t.Errorf("P2.1: Entities(%q): %q, error %d; want error %d", s, got, e, api.ErrToken)
	}
}

func TestEntitiesOrdinary(t *testing.T) {
	for _, r := range [][2]string{
		{"", ""},
		{"plain", "plain"},
		{"; # x lt;", "; # x lt;"},
		{"&lt;", "<"}, {"&gt;", ">"}, {"&amp;", "&"}, {"&quot;", `"`}, {"&apos;", "'"},
		{"a&lt;b&gt;c", "a<b>c"},
		{"&#65;", "A"}, {"&#x41;", "A"}, {"&#x6a;&#x6A;", "jj"},
		{"&#xabcde;", "\U000abcde"}, {"&#xABCDE;", "\U000abcde"}, {"&#x2f;", "/"},
		{"&lt;&#60;&#x3c;", "<<<"},
		{"\xff&amp;\x00", "\xff&\x00"},
	} {
		wantEntities(t, r[0], r[1])
	}
}

func TestEntitiesAreReplacedOnce(t *testing.T) {
	wantEntities(t, "&amp;lt;", "&lt;")
	wantEntities(t, "&#38;#38;", "&#38;")
	wantEntities(t, "&#x26;amp;amp;", "&amp;amp;")
}

func TestEntitiesDigits(t *testing.T) {
	for n := 1; n <= 8; n++ {
		zeros := strings.Repeat("0", n)
		for _, s := range []string{"&#" + zeros[1:] + "9;", "&#x" + zeros[1:] + "9;"} {
			if n <= 6 {
				wantEntities(t, s, "\t")
			} else {
				wantNoEntities(t, s)
			}
		}
	}
	wantEntities(t, "&#999999;", string(rune(999999)))
	wantNoEntities(t, "&#1114111;")
}

// Each number at an edge is asked for both ways, and with the ones right beside it.
func TestEntitiesNumbers(t *testing.T) {
	may := func(n int) bool {
		return n == 9 || n == 10 || n == 13 || n >= 32 && n < 55296 || n > 57343 && n <= 1114111
	}
	for _, edge := range []int{1, 9, 10, 13, 32, 127, 128, 2047, 2048, 55296, 57343, 65535, 65536, 999998, 1114111, 16777214} {
		for n := edge - 1; n <= edge+1; n++ {
			asked := []string{"&#x" + strconv.FormatInt(int64(n), 16) + ";"}
			if n <= 999999 {
				asked = append(asked, "&#"+strconv.Itoa(n)+";")
			}
			for _, s := range asked {
				if may(n) {
					wantEntities(t, s, string(rune(n)))
				} else {
					wantNoEntities(t, s)
				}
			}
		}
	}
}

func TestEntitiesAreUTF8(t *testing.T) {
	for n := 32; n <= 1114111; n += 97 {
		if n >= 55296 && n <= 57343 {
			continue
		}
		got, e := Entities("&#x" + strconv.FormatInt(int64(n), 16) + ";")
		r, size := utf8.DecodeRuneInString(got)
		if e != api.OK || int(r) != n || size != len(got) {
			t.Fatalf("P2.1: Entities of the number %d: %q, error %d", n, got, e)
		}
	}
}

func TestEntitiesWrong(t *testing.T) {
	for _, s := range []string{
		"&", "a&", "&;", "& ;", "&a", "&lt", "& lt;", "&lt ;", "&l;", "&ltt;", "&LT;", "&Amp;", "&nbsp;", "&lt&gt;", "&&amp;",
		"&#", "&#;", "&#x", "&#x;", "&#6", "&# 65;", "&#65 ;", "&#+65;", "&#-65;", "&#6_5;", "&#6a;", "&#x6g;", "&#X41;", "&#0x41;", "&#x+41;", "&#xx41;", "&x41;", "&65;", "&##65;",
		"&lt;&", "&lt;&gt", "a&lt;b&c;d",
	} {
		wantNoEntities(t, s)
	}
}

func TestEntitiesOfMany(t *testing.T) {
	wantEntities(t, strings.Repeat("&lt;", 100000), strings.Repeat("<", 100000))
	wantNoEntities(t, strings.Repeat("&", 100000))
	wantNoEntities(t, "&#"+strings.Repeat("1", 100000)+";")
}
