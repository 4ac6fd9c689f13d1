package words

import (
	"slices"
	"strings"
	"testing"

	"newel/api"
)

func dot(s string) api.Word         { return api.Word{Kind: api.Dotted, Text: s} }
func dash(s string) api.Word        { return api.Word{Kind: api.Dashed, Text: s} }
func other(s string) api.Word       { return api.Word{Kind: api.Other, Text: s} }
func list(l ...api.Word) []api.Word { return l }

var (
	alpha     = api.Word{Kind: api.Alpha}
	beta      = api.Word{Kind: api.Beta}
	milestone = api.Word{Kind: api.Milestone}
	candidate = api.Word{Kind: api.Candidate}
	snapshot  = api.Word{Kind: api.Snapshot}
	nothing   = api.Word{Kind: api.Nothing}
	pack      = api.Word{Kind: api.Pack}
)

func wantSplit(t *testing.T, v string, want ...api.Word) {
	t.Helper()
	if got := Split(v); !slices.Equal(got, want) {
		t.Errorf("P5.2: Split(%.80q): %.200v; want %.200v", v, got, want)
	}
}

func TestRight(t *testing.T) {
	for _, v := range []string{
		"1", "0", ".", "-", "1.0-alpha1", "1.0-SNAPSHOT", "${project.version}", "!~", "a:b", "{1}", "<1>", `"`, "1;2", "v/2", `\`,
		strings.Repeat("1", api.MaxVersion-1), strings.Repeat("~", api.MaxVersion),
	} {
		if !Right(v) {
			t.Errorf("P5.1: Right(%q): false", v)
		}
	}
	for _, v := range []string{
		"", " ", "1 ", " 1", "1 2", "[1]", "[1,2)", "(1", "1)", "[1", "1]", ",", "1,", ",1",
		"1\n", "\t1", "\x00", "1\x00", "1\x7f", "\u00e4", "1\u00a0", "1\xff", "\x80",
		strings.Repeat("1", api.MaxVersion+1), strings.Repeat("1", api.MaxVersion) + "]", strings.Repeat("1", api.MaxVersion-1) + "]", strings.Repeat("1", 300_000),
	} {
		if Right(v) {
			t.Errorf("P5.1: Right(%.120q): true", v)
		}
	}
}

func TestRightByEachByte(t *testing.T) {
	for c := range 256 {
		want := c >= 33 && c <= 126 && !strings.Contains("[](),", string(rune(c)))
		s := string([]byte{byte(c)})
		for _, v := range []string{s, "1" + s, s + "1", "1" + s + "1", s + s, strings.Repeat("1", api.MaxVersion-1) + s} {
			if got := Right(v); got != want {
				t.Errorf("P5.1: Right(%q): %v; want %v", v, got, want)
			}
		}
	}
}

func TestRightByLength(t *testing.T) {
	for n := range 3 * api.MaxVersion {
		if got, want := Right(strings.Repeat("x", n)), n >= 1 && n <= 100; got != want {
			t.Errorf("P5.1: Right of %d bytes: %v; want %v", n, got, want)
		}
	}
}

func TestSplitNumbers(t *testing.T) {
	wantSplit(t, "1", dot("1"))
	wantSplit(t, "1.2", dot("1"), dot("2"))
	wantSplit(t, "1-2", dot("1"), dash("2"))
	wantSplit(t, "1-2.3", dot("1"), dash("2"), dot("3"))
	wantSplit(t, "1.2-3", dot("1"), dot("2"), dash("3"))
	wantSplit(t, "-1", dash("1"))
	wantSplit(t, "--1", dash("1"))
	wantSplit(t, "-.1", nothing, nothing, dot("1"))
	wantSplit(t, ".-1", dash("1"))
	wantSplit(t, ".1", nothing, dot("1"))
	wantSplit(t, "1.-2", dot("1"), dash("2"))
	wantSplit(t, "1-.2", dot("1"), nothing, dot("2"))
	wantSplit(t, "1--2", dot("1"), dash("2"))
	wantSplit(t, "1..2", dot("1"), nothing, dot("2"))
	wantSplit(t, "001.010", dot("1"), dot("10"))
	wantSplit(t, "1-007", dot("1"), dash("7"))
	wantSplit(t, "x007", other("x"), dash("7"))
	wantSplit(t, "1.10200", dot("1"), dot("10200"))
	wantSplit(t, "20261118.123456", dot("20261118"), dot("123456"))
	// Numbers have no bound: they are digits, never counted.
	wantSplit(t, "18446744073709551616.99999999999999999999999", dot("18446744073709551616"), dot("99999999999999999999999"))
}

func TestSplitNoughts(t *testing.T) {
	for _, v := range []string{"", "0", "00", ".", "-", "..", "--", ".-", "-.", "0.0-0", "0-0.0", "000.000", "ga", "final", "release", "ga.final-release", "0ga0", "-ga-"} {
		wantSplit(t, v)
	}
	for _, v := range []string{"1", "1.", "1-", "1..", "1--", "1.-", "1.0", "1.0.0", "1-0", "1.0-0", "1-0.0", "1.00", "1.ga", "1-ga", "1ga", "1.0.GA", "1-final", "1.release", "1.0-ga.0-Final.00"} {
		wantSplit(t, v, dot("1"))
	}
	wantSplit(t, "1.0.1", dot("1"), nothing, dot("1"))
	wantSplit(t, "1.00.1", dot("1"), nothing, dot("1"))
	wantSplit(t, "1.0.0.1", dot("1"), nothing, nothing, dot("1"))
	wantSplit(t, "1-0.1", dot("1"), nothing, dot("1"))
	wantSplit(t, "1.ga.1", dot("1"), nothing, dot("1"))
	wantSplit(t, "1-final-release.1", dot("1"), nothing, nothing, dot("1"))
	wantSplit(t, "0.1", nothing, dot("1"))
	wantSplit(t, "0-1", dash("1"))
	wantSplit(t, "1.0-1", dot("1"), dash("1"))
	wantSplit(t, "1.0.0-1", dot("1"), dash("1"))
	wantSplit(t, "1.ga1", dot("1"), dash("1"))
	wantSplit(t, "1.0.0-x.0.0.1.0", dot("1"), other("x"), nothing, nothing, dot("1"))
	wantSplit(t, "1.0.1.0.0.x", dot("1"), nothing, dot("1"), other("x"))
	wantSplit(t, "1.x0.1", dot("1"), other("x"), nothing, dot("1"))
	wantSplit(t, "1.0.1-0-0.1-0", dot("1"), nothing, dot("1"), nothing, nothing, dot("1"))
	// Each kind that is neither Nothing nor Dotted takes the noughts ahead of it away.
	for v, w := range map[string]api.Word{
		"alpha": alpha, "beta": beta, "milestone": milestone, "rc": candidate, "cr": candidate, "snapshot": snapshot, "sp": pack, "x": other("x"),
	} {
		wantSplit(t, "1.0.0."+v, dot("1"), w)
		wantSplit(t, "1.0.0-"+v, dot("1"), w)
		wantSplit(t, "0.0"+v, w)
	}
}

func TestSplitNames(t *testing.T) {
	for v, w := range map[string]api.Word{
		"alpha": alpha, "beta": beta, "milestone": milestone, "rc": candidate, "cr": candidate, "snapshot": snapshot, "sp": pack,
		"a": other("a"), "b": other("b"), "m": other("m"), "x": other("x"), "c": other("c"),
		"alph": other("alph"), "alphas": other("alphas"), "al": other("al"), "aa": other("aa"), "am": other("am"),
		"snap": other("snap"), "rcs": other("rcs"), "spa": other("spa"), "gas": other("gas"), "g": other("g"), "finale": other("finale"),
		"jre": other("jre"), "_": other("_"), "+": other("+"), "alpha_": other("alpha_"), " rc": other(" rc"), "rc ": other("rc "),
		"[": other("["), "\u00e4": other("\u00e4"), "\u00c4": other("\u00c4"), "\xff": other("\xff"), "\x00": other("\x00"), "\u0661": other("\u0661"), "\u212a": other("\u212a"),
	} {
		for _, s := range []string{v, asciiUpper(v)} {
			wantSplit(t, s, w)
			wantSplit(t, "1."+s, dot("1"), w)
			wantSplit(t, "1-"+s, dot("1"), w)
			wantSplit(t, "1"+s, dot("1"), w)
			wantSplit(t, s+".2", w, dot("2"))
			wantSplit(t, s+"-2", w, dash("2"))
			wantSplit(t, s+"-x", w, other("x"))
		}
	}
}

func TestSplitShortNames(t *testing.T) {
	for v, w := range map[string]api.Word{"a": alpha, "b": beta, "m": milestone, "A": alpha, "B": beta, "M": milestone} {
		wantSplit(t, v+"1", w, dash("1"))
		wantSplit(t, "1-"+v+"1", dot("1"), w, dash("1"))
		wantSplit(t, "1."+v+"1", dot("1"), w, dash("1"))
		wantSplit(t, "1"+v+"1", dot("1"), w, dash("1"))
		// A nought is a number, too.
		wantSplit(t, "1"+v+"0", dot("1"), w)
		wantSplit(t, "1"+v+"0.1", dot("1"), w, nothing, dot("1"))
		low := other(strings.ToLower(v))
		wantSplit(t, "1"+v, dot("1"), low)
		wantSplit(t, "1"+v+"-1", dot("1"), low, dash("1"))
		wantSplit(t, "1"+v+".1", dot("1"), low, dot("1"))
		wantSplit(t, "1"+v+"-", dot("1"), low)
		wantSplit(t, v+v+"1", other(strings.ToLower(v+v)), dash("1"))
		wantSplit(t, "x"+v+"1", other("x"+strings.ToLower(v)), dash("1"))
	}
	// No other name hangs on what is behind it.
	wantSplit(t, "r1", other("r"), dash("1"))
	wantSplit(t, "s1", other("s"), dash("1"))
	wantSplit(t, "alpha1", alpha, dash("1"))
	wantSplit(t, "beta1", beta, dash("1"))
	wantSplit(t, "milestone1", milestone, dash("1"))
	wantSplit(t, "cr2", candidate, dash("2"))
	wantSplit(t, "sp2", pack, dash("2"))
}

func TestSplitExamples(t *testing.T) {
	wantSplit(t, "1.0-alpha1", dot("1"), alpha, dash("1"))
	wantSplit(t, "1.0", dot("1"))
	wantSplit(t, "1b2m3", dot("1"), beta, dash("2"), milestone, dash("3"))
	wantSplit(t, "1_2", dot("1"), other("_"), dash("2"))
	wantSplit(t, "1.0.0.RC2-SNAPSHOT", dot("1"), candidate, dash("2"), snapshot)
	wantSplit(t, "2.0-20261118.010203-7", dot("2"), dash("20261118"), dot("10203"), dash("7"))
	wantSplit(t, "31.1-jre", dot("31"), dot("1"), other("jre"))
	wantSplit(t, "1.8.0_292+b10", dot("1"), dot("8"), other("_"), dash("292"), other("+b"), dash("10"))
}

// Digits are those of chars alone, letters are lowered as chars does it: each byte counts for itself.
func TestSplitByEachByte(t *testing.T) {
	for c := range 256 {
		s := string([]byte{byte(c)})
		v := "1" + s + "2"
		switch {
		case c == '.':
			wantSplit(t, v, dot("1"), dot("2"))
		case c == '-':
			wantSplit(t, v, dot("1"), dash("2"))
		case c >= '0' && c <= '9':
			wantSplit(t, v, dot(v))
		case s == "a" || s == "A":
			wantSplit(t, v, dot("1"), alpha, dash("2"))
		case s == "b" || s == "B":
			wantSplit(t, v, dot("1"), beta, dash("2"))
		case s == "m" || s == "M":
			wantSplit(t, v, dot("1"), milestone, dash("2"))
		case c >= 'A' && c <= 'Z':
			wantSplit(t, v, dot("1"), other(string([]byte{byte(c + 32)})), dash("2"))
		default:
			wantSplit(t, v, dot("1"), other(s), dash("2"))
		}
	}
}

func TestSplitOfWhatIsLong(t *testing.T) {
	const n = 200_000
	wantSplit(t, strings.Repeat(".", n))
	wantSplit(t, strings.Repeat("0-", n))
	wantSplit(t, strings.Repeat("ga.", n)+"x", other("x"))
	wantSplit(t, strings.Repeat("0", n)+strings.Repeat("9", n), dot(strings.Repeat("9", n)))
	wantSplit(t, strings.Repeat("X", n), other(strings.Repeat("x", n)))
	wantSplit(t, strings.Repeat("0.", n)+"1", append(slices.Repeat(list(nothing), n), dot("1"))...)
	wantSplit(t, strings.Repeat("1a", n)+"1", append(append(list(dot("1"), alpha), slices.Repeat(list(dash("1"), alpha), n-1)...), dash("1"))...)
}

func TestSplitAnswersNewMemory(t *testing.T) {
	first := Split("1.0.1-rc")
	for i := range first[:cap(first)] {
		first[:cap(first)][i] = other("written over")
	}
	wantSplit(t, "1.0.1-rc", dot("1"), nothing, dot("1"), candidate)
}

func asciiUpper(s string) string {
	b := []byte(s)
	for i, c := range b {
		if c >= 'a' && c <= 'z' {
			b[i] = c - 32
		}
	}
	return string(b)
}

// draft goes by the chapter's words, step by step: all borders first, then all words, then one Nothing at a time.
func draft(v string) []api.Word {
	parts := draftParts(strings.ToLower(v))
	var l []api.Word
	for i, p := range parts {
		numbered := i+1 < len(parts) && parts[i+1].border == "parted" && isNumber(parts[i+1].text)
		l = append(l, draftWord(p, numbered))
	}
	for {
		at := slices.IndexFunc(indexes(l), func(i int) bool {
			if l[i].Kind != api.Nothing {
				return false
			}
			return i+1 == len(l) || l[i+1].Kind != api.Nothing && l[i+1].Kind != api.Dotted
		})
		if at < 0 {
			return l
		}
		l = slices.Delete(l, at, at+1)
	}
}

func indexes(l []api.Word) []int {
	var out []int
	for i := range l {
		out = append(out, i)
	}
	return out
}

type draftPart struct{ border, text string }

func draftParts(v string) []draftPart {
	parts := []draftPart{{border: "begin"}}
	for i := range len(v) {
		last := &parts[len(parts)-1]
		c := v[i : i+1]
		switch {
		case c == "." || c == "-":
			parts = append(parts, draftPart{border: c})
		case last.text != "" && isNumber(last.text) != isNumber(c):
			parts = append(parts, draftPart{border: "parted", text: c})
		default:
			last.text += c
		}
	}
	return parts
}

func isNumber(s string) bool {
	return s == "" || strings.Contains("0123456789", s[:1])
}

func draftWord(p draftPart, numbered bool) api.Word {
	if isNumber(p.text) {
		for strings.HasPrefix(p.text, "0") {
			p.text = p.text[1:]
		}
		kind := api.Dotted
		if p.text == "" {
			kind = api.Nothing
		} else if p.border == "-" || p.border == "parted" {
			kind = api.Dashed
		}
		return api.Word{Kind: kind, Text: p.text}
	}
	kinds := map[string]int{"alpha": 1, "beta": 2, "milestone": 3, "rc": 4, "cr": 4, "snapshot": 5, "ga": 6, "final": 6, "release": 6, "sp": 7}
	if numbered {
		kinds["a"], kinds["b"], kinds["m"] = 1, 2, 3
	}
	if k, ok := kinds[p.text]; ok {
		return api.Word{Kind: k}
	}
	return api.Word{Kind: 8, Text: p.text}
}

func eachVersion(pieces []string, length int, visit func(v string)) {
	var all func(v string, more int)
	all = func(v string, more int) {
		visit(v)
		if more > 0 {
			for _, p := range pieces {
				all(v+p, more-1)
			}
		}
	}
	all("", length)
}

func TestSplitAgainstADraft(t *testing.T) {
	check := func(v string) {
		if got, want := Split(v), draft(v); !slices.Equal(got, want) {
			t.Fatalf("P5.2: Split(%q): %v; want %v", v, got, want)
		}
	}
	eachVersion([]string{".", "-", "0", "1", "a", "x"}, 7, check)
	eachVersion([]string{".", "-", "0", "7", "B", "m", "ga", "Final", "rc", "sp", "alpha", "_"}, 5, check)
}

func TestNothingStandsAheadOfDottedNumbersAlone(t *testing.T) {
	eachVersion([]string{".", "-", "0", "1", "ga", "rc", "x"}, 6, func(v string) {
		l := Split(v)
		for i, w := range l {
			if w.Kind != api.Nothing {
				continue
			}
			if i+1 == len(l) || l[i+1].Kind != api.Nothing && l[i+1].Kind != api.Dotted {
				t.Fatalf("chapter 5, what follows: Split(%q): %v: the Nothing at %d", v, l, i)
			}
		}
	})
}

// Only numbers and Others have a text, and just those: no nought ahead, nothing great, no border within.
func TestSplitTexts(t *testing.T) {
	eachVersion([]string{".", "-", "0", "12", "A", "GA", "snapshot", "Z"}, 5, func(v string) {
		for _, w := range Split(v) {
			number := w.Kind == api.Dashed || w.Kind == api.Dotted
			switch {
			case w.Kind < api.Alpha || w.Kind > api.Dotted,
				(w.Text != "") != (number || w.Kind == api.Other),
				number && (w.Text[0] == '0' || strings.Trim(w.Text, "0123456789") != ""),
				w.Kind == api.Other && strings.ContainsAny(w.Text, "0123456789.-ABCDEFGHIJKLMNOPQRSTUVWXYZ"):
				t.Fatalf("P5.2: Split(%q) has the word %v", v, w)
			}
		}
	})
}
