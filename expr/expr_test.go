package expr

import (
	"slices"
	"strings"
	"sync"
	"testing"

	"newel/api"
)

func text(s string) api.Piece { return api.Piece{Text: s} }
func name(s string) api.Piece { return api.Piece{Name: true, Text: s} }

func pieces(l ...api.Piece) []api.Piece { return l }

// wantSplit asks for the pieces of s, for s of the pieces, and whether a name is in it.
func wantSplit(t *testing.T, s string, want ...api.Piece) {
	t.Helper()
	l, e := Split(s)
	if e != api.OK || !slices.Equal(l, want) {
		t.Errorf("P10.1: Split(%.80q): %.200v, error %d; want %.200v", s, l, e, want)
	}
	wantJoin(t, s, want...)
	wantHas(t, s, slices.ContainsFunc(want, func(p api.Piece) bool { return p.Name }))
}

// wantNoSplit asks for ErrProp of s, and for nothing beside it.
func wantNoSplit(t *testing.T, s string) {
	t.Helper()
	if l, e := Split(s); e != api.ErrProp || l != nil {
		t.Errorf("P10.1: Split(%.80q): %.200v, error %d; want error %d", s, l, e, api.ErrProp)
	}
	wantHas(t, s, true)
}

func wantJoin(t *testing.T, want string, l ...api.Piece) {
	t.Helper()
	if s := Join(l); s != want {
		t.Errorf("P10.1: Join(%.200v): %.80q; want %.80q", l, s, want)
	}
}

func wantHas(t *testing.T, s string, want bool) {
	t.Helper()
	if has := Has(s); has != want {
		t.Errorf("P10.1: Has(%.80q): %v", s, has)
	}
}

// everyText visits all texts of n parts of the pool at most.
func everyText(pool []string, n int, visit func(string)) {
	var grow func(s string, left int)
	grow = func(s string, left int) {
		visit(s)
		if left == 0 {
			return
		}
		for _, p := range pool {
			grow(s+p, left-1)
		}
	}
	grow("", n)
}

// TestSplitExample holds the chapter's example.
func TestSplitExample(t *testing.T) {
	wantSplit(t, "a${b}", text("a"), name("b"))
}

func TestSplitTexts(t *testing.T) {
	wantSplit(t, "")
	// A text is one piece, whatever stands in it beside "${".
	for _, s := range []string{"a", " ", "  ", "a b", "$", "$$", "{", "}", "{}", "}{", "$}", "{$", "$ {", "$a{b}", "a$", "{a}", "$a{", "$(a)", "#{a}", "$[a]", "\\$\\{", "\n", "\x00", "\xff", "\u00e4", "\u20ac{a}", "\uff04{a}", "%s", "&dollar;{a}"} {
		wantSplit(t, s, text(s))
	}
}

func TestSplitNames(t *testing.T) {
	// A name is taken as it stands: nothing is trimmed, and any byte but three may be in it.
	for _, s := range []string{"a", "A", "1", "_", "-", ".", " ", " a ", "a b", "a.b-c_d", "project.version", "\n", "\t", "\x00", "\xff", "\xc3", "\u00e4", "\u20ac", "(", ")", "[", "]", "<", ">", "&", "\"", "'", "\\", "/", ":", ",", "*", "#", "%"} {
		wantSplit(t, "${"+s+"}", name(s))
	}
}

func TestSplitBoth(t *testing.T) {
	wantSplit(t, "${a}b", name("a"), text("b"))
	wantSplit(t, "a${b}c", text("a"), name("b"), text("c"))
	wantSplit(t, "${a}${b}", name("a"), name("b"))
	wantSplit(t, "${a}${a}", name("a"), name("a"))
	wantSplit(t, "${a} ${a}", name("a"), text(" "), name("a"))
	wantSplit(t, "a${b}c${d}e", text("a"), name("b"), text("c"), name("d"), text("e"))
	wantSplit(t, " ${ a } ", text(" "), name(" a "), text(" "))
	wantSplit(t, "${project.groupId}:${project.artifactId}", name("project.groupId"), text(":"), name("project.artifactId"))
	wantSplit(t, "[${low},${high})", text("["), name("low"), text(","), name("high"), text(")"))
}

// TestSplitMarksInTexts: "$", "{" and "}" apart stand in texts, and the first "}" ends a name.
func TestSplitMarksInTexts(t *testing.T) {
	wantSplit(t, "$${a}", text("$"), name("a"))
	wantSplit(t, "$$${a}", text("$$"), name("a"))
	wantSplit(t, "{${a}", text("{"), name("a"))
	wantSplit(t, "}${a}", text("}"), name("a"))
	wantSplit(t, "{${a}}", text("{"), name("a"), text("}"))
	wantSplit(t, "${a}}", name("a"), text("}"))
	wantSplit(t, "${a}}}", name("a"), text("}}"))
	wantSplit(t, "${a}$", name("a"), text("$"))
	wantSplit(t, "${a}{", name("a"), text("{"))
	wantSplit(t, "${a}{b}", name("a"), text("{b}"))
	wantSplit(t, "${a}$b}", name("a"), text("$b}"))
	wantSplit(t, "${a}$${b}", name("a"), text("$"), name("b"))
	wantSplit(t, "$ {a${b}", text("$ {a"), name("b"))
	wantSplit(t, "$a${b}$c", text("$a"), name("b"), text("$c"))
}

func TestSplitNoName(t *testing.T) {
	for _, s := range []string{
		"${", "${}", "${a", "${ ", "${$", "${{", "${a$", "${a{", "${a$}", "${a{}", "${$a}", "${{a}", "${a$b}", "${a{b}", "${${", "${${}", "${${}}", "${${a}}", "${{a}}", "${a${b}}", "${a${b}", "${a\n", "${\xff", "${a]", "${a)",
	} {
		wantNoSplit(t, s)
		// What stands ahead of it, or behind a name, is not told either.
		for _, ahead := range []string{"a", "$", "{", "}", " ", "${b}", "a${b}", "a${b}c", "${b}${c}", "${b}}"} {
			wantNoSplit(t, ahead+s)
		}
	}
	for _, s := range []string{"${}a", "${}}", "${}${a}", "${a${b}c", "${a $ b}", "${a{b}c}", "a${}b${c}", "${${a}", "${a}${}", "${a}${", "${a}b${c", "${a} ${b$c} ${d}"} {
		wantNoSplit(t, s)
	}
}

// TestSplitEachByte puts each byte in the place of a text, and in each place of a name.
func TestSplitEachByte(t *testing.T) {
	for c := range 256 {
		b := string([]byte{byte(c)})
		wantSplit(t, b, text(b))
		wantSplit(t, b+"${a}", text(b), name("a"))
		wantSplit(t, "${a}"+b, name("a"), text(b))
		wantHas(t, "$"+b, c == '{')
		wantHas(t, b+"{", c == '$')
		// "$" and "{" begin nothing, if anything stands between them.
		if c != '{' && c != '$' {
			wantSplit(t, "$"+b+"{a}", text("$"+b+"{a}"))
		}
		if !strings.Contains("${}", b) {
			for _, s := range []string{b, b + "a", "a" + b + "a", "a" + b, b + b, "\xc3" + b, b + "\xa4", b + "a long name that ends"} {
				wantSplit(t, "${"+s+"}", name(s))
				wantSplit(t, "x${"+s+"}${y}", text("x"), name(s), name("y"))
				wantNoSplit(t, "${"+s)
			}
		}
	}
}

// TestSplitBarred puts each byte that may not stand in a name in each place of one.
func TestSplitBarred(t *testing.T) {
	for _, b := range []string{"$", "{"} {
		for _, s := range []string{b, b + "a", "a" + b + "a", "a" + b, b + b, "\xc3" + b, b + "\xa4", "a long name with a " + b + " in it"} {
			wantNoSplit(t, "${"+s+"}")
			wantNoSplit(t, "x${"+s+"}${y}")
			wantNoSplit(t, "${"+s)
		}
	}
	wantNoSplit(t, "${}}")
	wantNoSplit(t, "${}a}")
	wantSplit(t, "${a}a}", name("a"), text("a}"))
	wantSplit(t, "${a}}", name("a"), text("}"))
	wantSplit(t, "${\xc3}}", name("\xc3"), text("}"))
	wantSplit(t, "${a long name with a } in it}", name("a long name with a "), text(" in it}"))
}

// state is where a draft is, byte by byte.
type state int

const (
	inText state = iota
	behindDollar
	inName
)

// draft tells the pieces of s from a walk over its bytes, one at a time.
func draft(s string) ([]api.Piece, api.Errno) {
	var l []api.Piece
	at, held := inText, ""
	put := func(p api.Piece) {
		if p.Text != "" || p.Name {
			l = append(l, p)
		}
		held = ""
	}
	for i := range len(s) {
		c := s[i]
		switch {
		case at == inName && c == '}' && held != "":
			put(name(held))
			at = inText
		case at == inName && (c == '$' || c == '{' || c == '}'):
			return nil, api.ErrProp
		case at == behindDollar && c == '{':
			put(text(strings.TrimSuffix(held, "$")))
			at = inName
		default:
			held += string([]byte{c})
			if at != inName {
				at = inText
				if c == '$' {
					at = behindDollar
				}
			}
		}
	}
	if at == inName {
		return nil, api.ErrProp
	}
	put(text(held))
	return l, api.OK
}

// TestSplitEveryShortText holds Split against a draft, and what is split is joined.
func TestSplitEveryShortText(t *testing.T) {
	split, refused := 0, 0
	everyText([]string{"$", "{", "}", "a", " "}, 8, func(s string) {
		want, e := draft(s)
		if e == api.OK {
			split++
			wantSplit(t, s, want...)
			wantPieces(t, s, want)
		} else {
			refused++
			wantNoSplit(t, s)
		}
	})
	if split < 1000 || refused < 1000 {
		t.Errorf("P10.1: but %d texts were split, and %d refused", split, refused)
	}
}

// TestSplitEveryTextOfPieces goes further: of whole marks there are more names in a text.
func TestSplitEveryTextOfPieces(t *testing.T) {
	everyText([]string{"${", "}", "${a}", "$", "\xff"}, 7, func(s string) {
		want, e := draft(s)
		if e == api.OK {
			wantSplit(t, s, want...)
		} else {
			wantNoSplit(t, s)
		}
	})
}

// wantPieces asks whether l may be the pieces of a text at all.
func wantPieces(t *testing.T, s string, l []api.Piece) {
	t.Helper()
	for i, p := range l {
		if p.Text == "" || !p.Name && (Has(p.Text) || i > 0 && !l[i-1].Name) || p.Name && strings.ContainsAny(p.Text, "${}") {
			t.Errorf("P10.1: Split(%q): the piece %d: %+v", s, i, p)
		}
	}
}

// TestWhatIsJoinedIsSplit: lists that may be the pieces of a text are these of the text that they are joined to.
func TestWhatIsJoinedIsSplit(t *testing.T) {
	pool := pieces(text("a"), text("$"), text("}"), text("{a}"), text("$ {"), name("a"), name(" "), name("b.c"))
	var grow func(l []api.Piece, left int)
	grow = func(l []api.Piece, left int) {
		wantSplit(t, Join(l), l...)
		for _, p := range pool {
			if left > 0 && (p.Name || len(l) == 0 || l[len(l)-1].Name) {
				grow(append(slices.Clone(l), p), left-1)
			}
		}
	}
	grow(nil, 5)
}

// TestJoinOfAnything: whatever the pieces are, each is written as it stands.
func TestJoinOfAnything(t *testing.T) {
	wantJoin(t, "")
	if Join(nil) != "" || Join([]api.Piece{}) != "" {
		t.Error("P10.1: Join of nothing is something")
	}
	wantJoin(t, "", text(""))
	wantJoin(t, "", text(""), text(""))
	wantJoin(t, "${}", name(""))
	wantJoin(t, "ab", text("a"), text("b"))
	wantJoin(t, "${", text("$"), text("{"))
	wantJoin(t, "${${}", text("${"), name(""))
	wantJoin(t, "${${a}}", name("${a}"))
	wantJoin(t, "${}}", name("}"))
	wantJoin(t, "${a${b}c}", text("${a"), name("b"), text("c}"))
	wantJoin(t, "${\xff}\x00", name("\xff"), text("\x00"))
	wantJoin(t, "${ a } b ", name(" a "), text(" b "))
	wantJoin(t, "ba${c}", text("b"), text("a"), name("c"))
	wantJoin(t, "${c}ab", name("c"), text("a"), text("b"))
}

func TestHas(t *testing.T) {
	for _, s := range []string{"${", "${}", "${a}", "a${", "a${b", "$${", "{${", "}${", "${${", "$ ${", "\xff${", "\x00${", strings.Repeat("$", 300) + "{"} {
		wantHas(t, s, true)
	}
	for _, s := range []string{"", "$", "{", "}", "$$", "{{", "{$", "$ {", "$\x00{", "$}", "{}", "a", "$a{b}", "#{a}", "{$}", "\uff04{", "$\uff5b"} {
		wantHas(t, s, false)
	}
}

// TestLong: nothing is too long.
func TestLong(t *testing.T) {
	const n = 1_000_000
	long := strings.Repeat("a", n)
	wantSplit(t, long, text(long))
	wantSplit(t, "${"+long+"}", name(long))
	wantSplit(t, long+"${"+long+"}"+long, text(long), name(long), text(long))
	wantSplit(t, strings.Repeat("$", n)+"${a}", text(strings.Repeat("$", n)), name("a"))
	wantSplit(t, strings.Repeat("}", n), text(strings.Repeat("}", n)))
	wantSplit(t, strings.Repeat("$a{", n)+"}", text(strings.Repeat("$a{", n)+"}"))
	wantSplit(t, strings.Repeat("${a}", n), slices.Repeat(pieces(name("a")), n)...)
	wantSplit(t, strings.Repeat("b${a}", n), slices.Repeat(pieces(text("b"), name("a")), n)...)
	for _, s := range []string{strings.Repeat("${", n), "${" + long, "${" + long + "$}", long + "${", long + "${}", strings.Repeat("${a}", n) + "${", strings.Repeat("${", n) + strings.Repeat("}", n)} {
		wantNoSplit(t, s)
	}
}

func TestManyAtATime(t *testing.T) {
	var calls sync.WaitGroup
	for range 8 {
		calls.Go(func() {
			for range 200 {
				wantSplit(t, "a${b}", text("a"), name("b"))
				wantNoSplit(t, "a${b}${")
				wantJoin(t, "${a}b", name("a"), text("b"))
			}
		})
	}
	calls.Wait()
}

// TestAnswersAreNew: who writes into what is told changes nothing else (R3).
func TestAnswersAreNew(t *testing.T) {
	const s = "a${b}c"
	l, _ := Split(s)
	l[0], l[1] = name("x"), text("y")
	_ = append(l, text("z"))
	wantSplit(t, s, text("a"), name("b"), text("c"))
	wantJoin(t, "${x}yc", l...)
}

func TestLeavesItsArguments(t *testing.T) {
	want := pieces(text("a"), name("b"), text("c"))
	l := slices.Clone(want)
	if s := Join(l[:2]); s != "a${b}" || !slices.Equal(l, want) {
		t.Errorf("R3: Join: %q; what was handed in was turned to %v", s, l)
	}
}
