package span

import (
	"slices"
	"strconv"
	"strings"
	"testing"

	"newel/api"
	"newel/order"
	"newel/words"
)

func of(low, high string, inLow, inHigh bool) api.Span {
	return api.Span{Low: low, High: high, InLow: inLow, InHigh: inHigh}
}

func list(l ...api.Span) []api.Span { return l }

func wantParse(t *testing.T, s string, want ...api.Span) {
	t.Helper()
	if l, e := Parse(s); e != api.OK || !slices.Equal(l, want) {
		t.Errorf("P7.1: Parse(%.80q): %.200v, error %d; want %.200v", s, l, e, want)
	}
}

func wantErrRange(t *testing.T, s string) {
	t.Helper()
	if l, e := Parse(s); e != api.ErrRange || l != nil {
		t.Errorf("P7.1: Parse(%.80q): %.200v, error %d; want ErrRange", s, l, e)
	}
}

func wantText(t *testing.T, want string, l ...api.Span) {
	t.Helper()
	if got := Text(l); got != want {
		t.Errorf("P7.1: Text(%.200v): %.80q; want %.80q", l, got, want)
	}
}

func wantHolds(t *testing.T, l []api.Span, v string, want bool) {
	t.Helper()
	if got := Holds(l, v); got != want {
		t.Errorf("P7.2: Holds(%.200v, %.80q): %v", l, v, got)
	}
}

func wantBoth(t *testing.T, a, b []api.Span, want ...api.Span) {
	t.Helper()
	if got := Both(a, b); !slices.Equal(got, want) {
		t.Errorf("P7.2: Both(%.200v, %.200v): %.200v; want %.200v", a, b, got, want)
	}
}

// parsed answers the spans of s, which is a range.
func parsed(t *testing.T, s string) []api.Span {
	t.Helper()
	l, e := Parse(s)
	if e != api.OK {
		t.Fatalf("P7.1: Parse(%q): error %d", s, e)
	}
	return l
}

func TestIs(t *testing.T) {
	for c := range 256 {
		want := c == '[' || c == '('
		for _, rest := range []string{"", "1,2)", "[", "(", "\xff"} {
			s := string([]byte{byte(c)}) + rest
			if Is(s) != want {
				t.Errorf("P7.1: Is(%q): %v", s, !want)
			}
		}
	}
	for _, s := range []string{"", "1", "1[", " [1]", "1,2)", "])", "\u00e4["} {
		if Is(s) {
			t.Errorf("P7.1: Is(%q)", s)
		}
	}
	// What is meant as a range may be none.
	for _, s := range []string{"[", "(", "[]", "(x", "[2,1]"} {
		if !Is(s) {
			t.Errorf("P7.1: Is(%q): false", s)
		}
	}
}

func TestParseOne(t *testing.T) {
	wantParse(t, "[1,2)", of("1", "2", true, false)) // the chapter's example
	wantParse(t, "[1,2]", of("1", "2", true, true))
	wantParse(t, "(1,2]", of("1", "2", false, true))
	wantParse(t, "(1,2)", of("1", "2", false, false))
	wantParse(t, "[1]", of("1", "1", true, true))
	wantParse(t, "[1,1]", of("1", "1", true, true))
	wantParse(t, "[1,1.0]", of("1", "1.0", true, true))
	wantParse(t, "[1.0,1]", of("1.0", "1", true, true))
	wantParse(t, "(,2]", of("", "2", false, true))
	wantParse(t, "(,2)", of("", "2", false, false))
	wantParse(t, "[1,)", of("1", "", true, false))
	wantParse(t, "(1,)", of("1", "", false, false))
	wantParse(t, "(,)", of("", "", false, false))
	wantParse(t, "[1.0-rc1,1.0)", of("1.0-rc1", "1.0", true, false))
	wantParse(t, "[9,10]", of("9", "10", true, true))
	wantParse(t, "[A_b+c~!,z{}|]", of("A_b+c~!", "z{}|", true, true))
}

func TestParseOneThatMayNotBe(t *testing.T) {
	for _, s := range []string{"[2,1]", "(2,1)", "[2,1)", "(2,1]", "[10,9]", "[1,1)", "(1,1]", "(1,1)", "[1,1.0)", "(1.0,1]", "(1,1.0)", "[1,1-rc]", "[z,a]",
		"[,1]", "[,1)", "[1,]", "(1,]", "[,]", "[,)", "(,]", "[]", "()", "[)", "(]", "[ ]", "( )", "(1)", "(1]", "[1)", "( 1 )"} {
		wantErrRange(t, s)
	}
}

func TestParseWrongShape(t *testing.T) {
	for _, s := range []string{"", " ", ",", "1", "1,2", "[", "(", "]", ")", "[1", "[1,", "[1,2", "(,", "1]", "1,2]", ",1]", "[1,2]x", "x[1,2]", "[1,2]]", "[1,2])", "[1,2][3,4]", "[1,2](3,4)",
		"[[1,2]", "[1,2[", "[(1,2]", "[1,2(", "[[1],2]", "[1,[2]]", "[1,2,3]", "[1,,2]", "[1,2,]", "(,1,)", "(,,)", "{1,2}", "<1,2>", "[1..2]x", "]1,2[", ")1,2(",
		"[1,2],", ",[1,2]", "[1,2],,[3,4]", "[1,2],3", "[1,2],[", "[1,2],[3", "[1,2],]", "[1,2];[3,4]", "[1,2] [3,4]", "[1,2].[3,4]"} {
		wantErrRange(t, s)
	}
}

func TestParseBlanks(t *testing.T) {
	for _, a := range []string{"", " ", "  ", strings.Repeat(" ", 5_000)} {
		for _, b := range []string{"", " ", "   ", strings.Repeat(" ", 20_000)} {
			wantParse(t, "["+a+"1"+b+"]", of("1", "1", true, true))
			wantParse(t, "["+a+"1"+b+",2)", of("1", "2", true, false))
			wantParse(t, "[1,"+a+"2"+b+")", of("1", "2", true, false))
			wantParse(t, "("+a+b+",2)", of("", "2", false, false))
			wantParse(t, "(2,"+a+b+")", of("2", "", false, false))
			wantParse(t, "("+a+","+b+")", api.Span{})
			wantParse(t, "["+a+"1"+b+","+b+"2"+a+"),("+a+"2"+b+","+a+")", of("1", "2", true, false), of("2", "", false, false))
		}
	}
	for _, s := range []string{" [1,2]", "[1,2] ", "[1,2] ,[3,4]", "[1,2], [3,4]", " ", "[1 2,3]", "[1,2 3]", "[1 2]", "[1 .0]", " (,)", "(,) ", "[ ,1]", "[1, ]", "[ , ]"} {
		wantErrRange(t, s)
	}
}

// TestParseEachByte puts each byte into a version, and about it: a blank alone may stand there beside what versions have.
func TestParseEachByte(t *testing.T) {
	for c := range 256 {
		b := string([]byte{byte(c)})
		inside, about := "a"+b+"z", b+"a"
		switch {
		case c == ' ':
			wantErrRange(t, "["+inside+"]")
			wantParse(t, "["+about+"]", of("a", "a", true, true))
			wantParse(t, "(,"+about+")", of("", "a", false, false))
			wantParse(t, "("+b+",)", api.Span{})
		case words.Right(b):
			wantParse(t, "["+inside+"]", of(inside, inside, true, true))
			wantParse(t, "["+inside+",)", of(inside, "", true, false))
			wantParse(t, "(,"+inside+"]", of("", inside, false, true))
			wantParse(t, "["+about+"]", of(about, about, true, true))
			wantParse(t, "["+b+",)", of(b, "", true, false))
		case c == ',':
			wantParse(t, "["+inside+"]", of("a", "z", true, true))
			wantErrRange(t, "["+about+"]")
		default:
			wantErrRange(t, "["+inside+"]")
			wantErrRange(t, "["+inside+",)")
			wantErrRange(t, "(,"+inside+"]")
			wantErrRange(t, "["+about+"]")
			wantErrRange(t, "["+b+",)")
		}
		if c != '[' && c != '(' {
			wantErrRange(t, b+"1,2)")
		}
		if c != ']' && c != ')' {
			wantErrRange(t, "[1,2"+b)
		}
		wantErrRange(t, b+"[1,2)")
		wantErrRange(t, "[1,2)"+b)
		wantErrRange(t, "[1,2)"+b+"\x00[3,4)")
		if c != ',' {
			wantErrRange(t, "[1,2)"+b+"[3,4)")
		}
	}
}

func TestParseLongVersions(t *testing.T) {
	most, more := strings.Repeat("7", api.MaxVersion), strings.Repeat("7", api.MaxVersion+1)
	wantParse(t, "["+most+"]", of(most, most, true, true))
	wantParse(t, "[ "+most+" , )", of(most, "", true, false))
	wantParse(t, "[1,"+most+"]", of("1", most, true, true))
	wantErrRange(t, "["+more+"]")
	wantErrRange(t, "["+more+",)")
	wantErrRange(t, "[1,"+more+"]")
	wantErrRange(t, "(,"+strings.Repeat("7", 1_000_000)+"]")
}

func TestParseOneBehindTheOther(t *testing.T) {
	wantParse(t, "[1,2],[3,4]", of("1", "2", true, true), of("3", "4", true, true))
	wantParse(t, "(1,2),(3,4)", of("1", "2", false, false), of("3", "4", false, false))
	wantParse(t, "[1,2),[2,3]", of("1", "2", true, false), of("2", "3", true, true))
	wantParse(t, "[1,2],(2,3]", of("1", "2", true, true), of("2", "3", false, true))
	wantParse(t, "[1,2),(2,3]", of("1", "2", true, false), of("2", "3", false, true))
	wantParse(t, "[1,2),[2.0,3]", of("1", "2", true, false), of("2.0", "3", true, true))
	wantParse(t, "(,1),(1,)", of("", "1", false, false), of("1", "", false, false))
	wantParse(t, "[9],[10]", of("9", "9", true, true), of("10", "10", true, true))
	wantParse(t, "(,1],[2],(3,4),[4,)", of("", "1", false, true), of("2", "2", true, true), of("3", "4", false, false), of("4", "", true, false))
	for _, s := range []string{"[1,2],[2,3]", "[1,2],[2.0,3]", "[1],[1]", "[1],[1.0]", "[1],[1,2]", "[1,3],[2,4]", "[3,4],[1,2]", "[2],[1]", "[10],[9]", "[1,2],[1,2]",
		"[1,),[2,3]", "(,),[2,3]", "[1,2],(,3)", "[1,2],(,)", "[1,),(,3)", "(,),(,)", "(,1),(,2)", "(1,),(2,)", "[1],[2],[2]", "[1],[2],[1]", "[1],[3],[2]", "[1],(,5),[6]", "[1],[2,),[6]", "[2],[1],[3]",
		"[0],(,1)", "(,0),(,1)", "[alpha],(,1)", "(,1-rc),(,)", "[rc],(,)", "[rc,),[0]", "[alpha,),[rc]",
		"[1],[2],[3,2]", "[1],[3,2],[4]", "[2,1],[3],[4]", "[1],[],[3]", "[1],(2),[3]"} {
		wantErrRange(t, s)
	}
}

// many answers a range of n spans.
func many(n int) (string, []api.Span) {
	var texts []string
	var l []api.Span
	for i := range n {
		v := strconv.Itoa(i + 1)
		texts = append(texts, "["+v+"]")
		l = append(l, of(v, v, true, true))
	}
	return strings.Join(texts, ","), l
}

func TestParseMaxSpans(t *testing.T) {
	for n := 1; n <= api.MaxSpans; n++ {
		s, l := many(n)
		wantParse(t, s, l...)
		wantText(t, s, l...)
	}
	for _, n := range []int{api.MaxSpans + 1, api.MaxSpans + 2, 2 * api.MaxSpans, 100_000} {
		s, l := many(n)
		wantErrRange(t, s)
		wantText(t, s, l...)
	}
}

func TestText(t *testing.T) {
	wantText(t, "")
	wantText(t, "", []api.Span{}...)
	wantText(t, "(,)", api.Span{})
	for _, in := range []struct {
		first, last string
		low, high   bool
	}{{"(", ")", false, false}, {"[", ")", true, false}, {"(", "]", false, true}, {"[", "]", true, true}} {
		for _, v := range [][2]string{{"1", "2"}, {"2", "1"}, {"", "1"}, {"1", ""}, {"1", "1.0"}, {" 1", "1"}, {"[", "]"}, {"\xff", "\x00"}} {
			wantText(t, in.first+v[0]+","+v[1]+in.last, of(v[0], v[1], in.low, in.high))
		}
		if !in.low || !in.high {
			wantText(t, in.first+"1,1"+in.last, of("1", "1", in.low, in.high))
			wantText(t, in.first+","+in.last, of("", "", in.low, in.high))
		}
	}
	wantText(t, "[1]", of("1", "1", true, true))
	wantText(t, "[]", of("", "", true, true))
	wantText(t, "(,1),[2],[],[3,)", of("", "1", false, false), of("2", "2", true, true), of("", "", true, true), of("3", "", true, false))
	wantText(t, "[2],[1],[1]", of("2", "2", true, true), of("1", "1", true, true), of("1", "1", true, true))
}

func TestTextIsReadAgain(t *testing.T) {
	for _, l := range rightLists(2) {
		wantParse(t, Text(l), l...)
	}
}

// spansOf answers all spans with these bounds, whether they may be or not.
func spansOf(bounds ...string) []api.Span {
	var l []api.Span
	for _, low := range bounds {
		for _, high := range bounds {
			for in := range 4 {
				l = append(l, of(low, high, in&1 != 0, in&2 != 0))
			}
		}
	}
	return l
}

// place tells where a bound stands on a line, by the numbers that the versions of these tests are.
func place(v string) int {
	n, _, _ := strings.Cut(v, ".")
	p, _ := strconv.Atoi(n)
	return p * 10
}

// rightSpan is a second telling of which span may be, with places in place of versions.
func rightSpan(s api.Span) bool {
	switch {
	case s.Low == "" && s.InLow, s.High == "" && s.InHigh:
		return false
	case s.Low == "", s.High == "":
		return true
	case place(s.Low) == place(s.High):
		return s.InLow && s.InHigh
	}
	return place(s.Low) < place(s.High)
}

// rightLists answers all ranges of up to n spans with bounds of 1 to 3.
func rightLists(n int) [][]api.Span {
	var right []api.Span
	for _, s := range spansOf("", "1", "2", "2.0", "3") {
		if rightSpan(s) {
			right = append(right, s)
		}
	}
	var all [][]api.Span
	last := [][]api.Span{nil}
	for range n {
		var longer [][]api.Span
		for _, l := range last {
			for _, s := range right {
				if len(l) == 0 || rightBehind(l[len(l)-1], s) {
					longer = append(longer, append(slices.Clone(l), s))
				}
			}
		}
		all = append(all, longer...)
		last = longer
	}
	return all
}

func rightBehind(a, b api.Span) bool {
	if a.High == "" || b.Low == "" {
		return false
	}
	// Half a step of room about a bound that is not In leaves place for the next one.
	high, low := place(a.High), place(b.Low)
	if !a.InHigh {
		high--
	}
	if !b.InLow {
		low++
	}
	return high < low
}

// draft writes a span, with blanks by the bits of mask about its versions.
func draft(s api.Span, mask int) string {
	blank := func(bit int) string { return strings.Repeat(" ", mask>>bit&1) }
	first, last := "(", ")"
	if s.InLow {
		first = "["
	}
	if s.InHigh {
		last = "]"
	}
	return first + blank(0) + s.Low + blank(1) + "," + blank(2) + s.High + blank(3) + last
}

// drafts answers all ways to write what rightLists has, of few blanks, by their texts.
func drafts() map[string][]api.Span {
	all := map[string][]api.Span{}
	add := func(text string, l []api.Span) {
		if !strings.Contains(text, "2.0") && !strings.Contains(text, "3") {
			all[text] = l
		}
	}
	var write func(l, rest []api.Span, text string)
	write = func(l, rest []api.Span, text string) {
		if len(rest) == 0 {
			add(text, l)
			return
		}
		if text != "" {
			text += ","
		}
		for mask := range 16 {
			write(l, rest[1:], text+draft(rest[0], mask))
		}
		if s := rest[0]; s.Low == s.High && s.InLow {
			for _, v := range []string{s.Low, " " + s.Low, s.Low + " ", " " + s.Low + " ", "  " + s.Low, s.Low + "  "} {
				write(l, rest[1:], text+"["+v+"]")
			}
		}
	}
	for _, l := range rightLists(2) {
		write(l, l, "")
	}
	return all
}

// alike tells whether both are blanks, or both are digits.
func alike(a, b byte) bool {
	return a == ' ' && b == ' ' || a >= '1' && a <= '9' && b >= '1' && b <= '9'
}

// TestParseEveryShortText goes through all texts of up to 7 bytes: those that are no draft of a range are refused.
func TestParseEveryShortText(t *testing.T) {
	const pieces = "[(]), 12"
	all := drafts()
	found := 0
	var text [7]byte
	var fill func(n int)
	fill = func(n int) {
		s := string(text[:n])
		if l, is := all[s]; is {
			found++
			wantParse(t, s, l...)
		} else if _, e := Parse(s); e != api.ErrRange {
			t.Errorf("P7.1: Parse(%q): error %d", s, e)
		}
		if n == len(text) {
			return
		}
		for i := range len(pieces) {
			// Of more than one blank at a time, and of 11 and the like, other tests tell.
			if n == 0 || !alike(text[n-1], pieces[i]) {
				text[n] = pieces[i]
				fill(n + 1)
			}
		}
	}
	fill(0)
	if found < 100 {
		t.Errorf("the test found %d ranges alone", found)
	}
}

func TestHoldsBounds(t *testing.T) {
	low, high := []string{"1", "1.0", "01", "1-ga", "1.0.0"}, []string{"2", "2.0", "2-final"}
	for in := range 4 {
		inLow, inHigh := in&1 != 0, in&2 != 0
		for _, a := range low {
			for _, b := range high {
				s := of(a, b, inLow, inHigh)
				for _, v := range low {
					wantHolds(t, list(s), v, inLow)
					wantHolds(t, list(of(a, "", inLow, inHigh)), v, inLow)
					wantHolds(t, list(of("", b, inLow, inHigh)), v, true)
				}
				for _, v := range high {
					wantHolds(t, list(s), v, inHigh)
					wantHolds(t, list(of("", b, inLow, inHigh)), v, inHigh)
					wantHolds(t, list(of(a, "", inLow, inHigh)), v, true)
				}
				for _, v := range []string{"1-sp", "1-x", "1-1", "1.0.1", "1.9", "2-rc", "2-SNAPSHOT", "2.0-alpha1"} {
					wantHolds(t, list(s), v, true)
				}
				for _, v := range []string{"", "0", "x", "0.9", "1-rc", "1-SNAPSHOT"} {
					wantHolds(t, list(s), v, false)
					wantHolds(t, list(of("", b, inLow, inHigh)), v, true)
				}
				for _, v := range []string{"2-sp", "2-x", "2-1", "2.0.1", "3", "10", strings.Repeat("9", 1_000)} {
					wantHolds(t, list(s), v, false)
					wantHolds(t, list(of(a, "", inLow, inHigh)), v, true)
				}
			}
		}
		for _, v := range []string{"", "0", "1", "x", "[", "\xff", " ", "alpha", strings.Repeat("9", 1_000)} {
			wantHolds(t, list(of("", "", inLow, inHigh)), v, true)
		}
	}
}

func TestHoldsOneOfThem(t *testing.T) {
	wantHolds(t, nil, "1", false)
	wantHolds(t, []api.Span{}, "", false)
	l := parsed(t, "(,1),[2],(3,4),(4,5],[7,)")
	for _, v := range []string{"0", "1-rc", "2", "2.0", "3.1", "3-x", "4-rc", "4.1", "5", "5.0", "7", "8", "100"} {
		wantHolds(t, l, v, true)
	}
	for _, v := range []string{"1", "1.5", "2-rc", "2.1", "3", "4", "4.0", "5.1", "6", "7-rc"} {
		wantHolds(t, l, v, false)
	}
}

func TestHoldsOfWhatMayNotBe(t *testing.T) {
	for _, v := range []string{"", "1", "1.5", "2", "3"} {
		wantHolds(t, list(of("2", "1", true, true)), v, false)
		wantHolds(t, list(of("1", "1.0", false, true)), v, false)
		wantHolds(t, list(of("1", "1", true, false)), v, false)
		wantHolds(t, list(of("2", "1", true, true), of("", "", true, true)), v, true)
		wantHolds(t, list(of("", "", false, false), of("2", "1", true, true)), v, true)
	}
	wantHolds(t, list(of("[1]", "[3]", true, true)), "[2]", true)
	wantHolds(t, list(of("[1]", "[3]", true, true)), "[4]", false)
	wantHolds(t, list(of("1", "3", true, true), of("2", "2", true, true)), "2", true)
	long := strings.Repeat("1.", 50_000)
	wantHolds(t, list(of(long, long+"1", true, false)), long+"0", true)
	wantHolds(t, list(of(long, long+"1", false, true)), long+"0", false)
}

// TestHoldsEverySpan holds each span, right or not, against places on a line.
func TestHoldsEverySpan(t *testing.T) {
	within := func(s api.Span, p int) bool {
		up := s.Low == "" || p > place(s.Low) || p == place(s.Low) && s.InLow
		down := s.High == "" || p < place(s.High) || p == place(s.High) && s.InHigh
		return up && down
	}
	spans := spansOf("", "1", "2", "2.0", "3")
	for _, v := range []string{"0", "1", "1.0", "2", "2.0", "3", "4"} {
		for i, s := range spans {
			wantHolds(t, list(s), v, within(s, place(v)))
			other := spans[(i*37+11)%len(spans)]
			wantHolds(t, list(s, other), v, within(s, place(v)) || within(other, place(v)))
		}
	}
}

func TestBothOne(t *testing.T) {
	for _, r := range [][3]string{{"[1,3)", "[2,4)", "[2,3)"}, {"[1,4)", "[2,3)", "[2,3)"}, {"(1,3]", "(2,4]", "(2,3]"}, {"[1,2)", "[2,3)", ""}, {"[1,2]", "[2,3]", "[2]"}, {"[1,2]", "(2,3]", ""}, {"[1,2)", "(2,3]", ""},
		{"[1,2]", "[3,4]", ""}, {"(,)", "(,)", "(,)"}, {"(,)", "[1,2)", "[1,2)"}, {"(,2]", "[1,)", "[1,2]"}, {"(,2)", "(,3)", "(,2)"}, {"(2,)", "[3,)", "[3,)"}, {"(,1)", "(2,)", ""}, {"(,1)", "(1,)", ""}, {"(,1]", "[1,)", "[1]"},
		{"[1,2]", "(1,2)", "(1,2)"}, {"[1,2)", "(1,2]", "(1,2)"}, {"[1,2]", "[1,2]", "[1,2]"}, {"(1,2)", "(1,2)", "(1,2)"}, {"[9,11]", "[10,12]", "[10,11]"}, {"[1]", "[1]", "[1]"}, {"[1]", "[2]", ""}, {"[1]", "(1,2]", ""}, {"[1]", "(0,2)", "[1]"}} {
		a, b := parsed(t, r[0]), parsed(t, r[1])
		if got := Text(Both(a, b)); got != r[2] {
			t.Errorf("P7.2: Both(%q, %q): %q; want %q", r[0], r[1], got, r[2])
		}
		if got := Text(Both(b, a)); got != r[2] {
			t.Errorf("P7.2: Both(%q, %q): %q; want %q", r[1], r[0], got, r[2])
		}
	}
}

// TestBothSame tells whose text counts where two bounds are the same by Compare.
func TestBothSame(t *testing.T) {
	for in := range 16 {
		x, y, z, w := in&1 != 0, in&2 != 0, in&4 != 0, in&8 != 0
		wantBoth(t, list(of("1.0", "2", x, y)), list(of("1", "2.0", z, w)), of("1.0", "2", x && z, y && w))
		wantBoth(t, list(of("1", "2.0", x, y)), list(of("1.0", "2", z, w)), of("1", "2.0", x && z, y && w))
		if x && y && z && w {
			wantBoth(t, list(of("1", "1.0", x, y)), list(of("01", "1.ga", z, w)), of("1", "1.0", true, true))
		} else {
			wantBoth(t, list(of("1", "1.0", x, y)), list(of("01", "1.ga", z, w)))
		}
		// What is not the same counts with its own In alone.
		wantBoth(t, list(of("1", "4", x, y)), list(of("2", "3", z, w)), of("2", "3", z, w))
		wantBoth(t, list(of("2", "3", x, y)), list(of("1", "4", z, w)), of("2", "3", x, y))
		wantBoth(t, list(of("1", "3", x, y)), list(of("2", "4", z, w)), of("2", "3", z, y))
		wantBoth(t, list(of("2", "4", x, y)), list(of("1", "3", z, w)), of("2", "3", x, w))
	}
}

// TestBothNoBound tells whose In comes with a bound that the other one does not have.
func TestBothNoBound(t *testing.T) {
	for in := range 16 {
		x, y, z, w := in&1 != 0, in&2 != 0, in&4 != 0, in&8 != 0
		none, some := of("", "", x, y), of("1", "2", z, w)
		wantBoth(t, list(none), list(some), some)
		wantBoth(t, list(some), list(none), some)
		wantBoth(t, list(of("", "2", x, w)), list(of("1", "", z, y)), some)
		wantBoth(t, list(of("1", "", z, y)), list(of("", "2", x, w)), some)
		// Of two without a bound that of b counts.
		if z || w {
			wantBoth(t, list(none), list(of("", "", z, w)))
		} else {
			wantBoth(t, list(none), list(of("", "", z, w)), api.Span{})
		}
	}
}

func TestBothOfWhatMayNotBe(t *testing.T) {
	all := list(api.Span{})
	for _, s := range []api.Span{of("2", "1", true, true), of("1", "1", true, false), of("1", "1", false, true), of("1", "1.0", false, false), of("[", "", false, false), of("", "a b", false, false), of("1", "2,3", true, true), of(strings.Repeat("1", api.MaxVersion+1), "", true, false), of("\xff", "\xff", true, true)} {
		wantBoth(t, all, list(s))
		wantBoth(t, list(s), all)
		wantBoth(t, list(s, s), list(s, s, s))
	}
	most := of(strings.Repeat("1", api.MaxVersion), "", true, false)
	wantBoth(t, all, list(most), most)
	// A bound that may not be is no hindrance where the other one counts.
	wantBoth(t, list(of("[", "2", true, true)), list(of("1", "", true, false)), of("1", "2", true, true))
	wantBoth(t, list(of("1", "5", true, true)), list(of("2", "7 8", false, false)), of("2", "5", false, true))
	wantBoth(t, list(of("3", "5", true, true)), list(of("1", "9", true, true), of("4", "2", true, true)), of("3", "5", true, true))
}

func TestBothInOrder(t *testing.T) {
	wantBoth(t, nil, nil)
	wantBoth(t, nil, parsed(t, "[1,2],[3,4]"))
	wantBoth(t, parsed(t, "[1,2],[3,4]"), nil)
	wantBoth(t, list(of("1", "9", true, true)), []api.Span{})
	wantBoth(t, parsed(t, "[1,9]"), parsed(t, "[2,3],[4,5]"), parsed(t, "[2,3],[4,5]")...)
	wantBoth(t, parsed(t, "[2,3],[4,5]"), parsed(t, "[1,9]"), parsed(t, "[2,3],[4,5]")...)
	wantBoth(t, parsed(t, "[1,3],[5,7]"), parsed(t, "[2,6]"), parsed(t, "[2,3],[5,6]")...)
	wantBoth(t, parsed(t, "[1,4],[6,9]"), parsed(t, "(,2),[3,7),[8,)"), parsed(t, "[1,2),[3,4],[6,7),[8,9]")...)
	// Those of a go first, each through all of b, whatever order they have.
	a, b := list(of("5", "9", true, true), of("1", "6", true, true)), list(of("4", "8", false, false), of("2", "7", false, true))
	wantBoth(t, a, b, of("5", "8", true, false), of("5", "7", true, true), of("4", "6", false, true), of("2", "6", false, true))
	wantBoth(t, b, a, of("5", "8", true, false), of("4", "6", false, true), of("5", "7", true, true), of("2", "6", false, true))
	twice := list(of("1", "2", true, true), of("1", "2", true, true))
	wantBoth(t, twice, twice, slices.Concat(twice, twice)...)
}

func TestBothOfMany(t *testing.T) {
	_, l := many(api.MaxSpans)
	wantBoth(t, l, l, l...)
	wantBoth(t, l, list(api.Span{}), l...)
	if got := Both(slices.Repeat(list(of("1", "3", true, true)), 60), slices.Repeat(list(of("2", "4", true, true)), 70)); len(got) != 60*70 {
		t.Errorf("P7.2: Both of 60 and 70: %d", len(got))
	}
}

// TestBothHoldsWhatBothHold is what follows.
func TestBothHoldsWhatBothHold(t *testing.T) {
	all := rightLists(2)
	versions := []string{"0", "1-rc", "1", "1.0", "1.5", "2-rc", "2", "2.0", "2-x", "3", "3.1"}
	held := make([][]bool, len(all))
	for i, l := range all {
		for _, v := range versions {
			held[i] = append(held[i], Holds(l, v))
		}
	}
	for i := range all {
		for k := i % 7; k < len(all); k += 7 {
			both := Both(all[i], all[k])
			for n, v := range versions {
				if got, want := Holds(both, v), held[i][n] && held[k][n]; got != want {
					t.Fatalf("What follows: Both(%v, %v) holds %q: %v", all[i], all[k], v, got)
				}
			}
			// Of two ranges, what both hold is a range again, or nothing; but for how many spans it has.
			if text := Text(both); text != "" {
				wantParse(t, text, both...)
			}
		}
	}
}

// TestHeldByItsBounds ties Holds to the order of versions, for versions of all kinds.
func TestHeldByItsBounds(t *testing.T) {
	versions := []string{"alpha", "1-alpha", "1-beta-2", "1-m3", "1-rc", "1-SNAPSHOT", "1", "1.0", "1-sp", "1-x", "1-1", "1.0.1", "1.1", "2-rc", "2", "10", "x"}
	for _, low := range versions {
		for _, high := range versions {
			if order.Compare(low, high) >= 0 {
				wantErrRange(t, "("+low+","+high+")")
				continue
			}
			l := parsed(t, "["+low+","+high+")")
			for _, v := range versions {
				wantHolds(t, l, v, order.Compare(v, low) >= 0 && order.Compare(v, high) < 0)
			}
		}
	}
}

func TestNewMemory(t *testing.T) {
	room := list(of("1", "5", true, true), of("6", "9", true, false), of("10", "11", true, true), of("12", "", false, false))
	kept := slices.Clone(room)
	check := func(what string) {
		t.Helper()
		if !slices.Equal(room, kept) {
			t.Fatalf("R3: %s turned its argument to %v", what, room)
		}
	}
	writeOver := func(l []api.Span) {
		all := l[:cap(l)]
		for i := range all {
			all[i] = of("turned", "turned", true, false)
		}
	}
	for n := range len(room) + 1 {
		for _, other := range [][]api.Span{room[:n], room[n:], list(api.Span{}), nil} {
			writeOver(Both(room[:n], other))
			check("Both")
			writeOver(Both(other, room[:n]))
			check("Both")
		}
		Text(room[:n])
		Holds(room[:n], "7")
		check("Text, or Holds")
	}
	first, _ := Parse("[1,2),[3]")
	writeOver(first)
	wantParse(t, "[1,2),[3]", of("1", "2", true, false), of("3", "3", true, true))
}
