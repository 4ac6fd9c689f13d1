package choose

import (
	"slices"
	"strconv"
	"strings"
	"sync"
	"testing"

	"newel/api"
	"newel/order"
	"newel/span"
	"newel/words"
)

func of(low, high string, inLow, inHigh bool) api.Span {
	return api.Span{Low: low, High: high, InLow: inLow, InHigh: inHigh}
}

func spans(l ...api.Span) []api.Span { return l }
func list(l ...string) []string      { return l }

// all holds every version.
func all() []api.Span { return spans(api.Span{}) }

func wantHighest(t *testing.T, l []string, r []api.Span, want string) {
	t.Helper()
	if v, is := Highest(l, r); v != want || !is {
		t.Errorf("P8.1: Highest(%.200q, %.200v): %.80q, %v; want %.80q", l, r, v, is, want)
	}
}

func wantNoHighest(t *testing.T, l []string, r []api.Span) {
	t.Helper()
	if v, is := Highest(l, r); v != "" || is {
		t.Errorf("P8.1: Highest(%.200q, %.200v): %.80q, %v; want none", l, r, v, is)
	}
}

func wantPick(t *testing.T, l []string, want, version string) {
	t.Helper()
	if v, e := Pick(l, want); v != version || e != api.OK {
		t.Errorf("P8.1: Pick(%.200q, %.80q): %.80q, error %d; want %.80q", l, want, v, e, version)
	}
}

func wantNoPick(t *testing.T, l []string, want string, errno api.Errno) {
	t.Helper()
	if v, e := Pick(l, want); v != "" || e != errno {
		t.Errorf("P8.1: Pick(%.200q, %.80q): %.80q, error %d; want error %d", l, want, v, e, errno)
	}
}

// parsed answers the spans of s, which is a range.
func parsed(t *testing.T, s string) []api.Span {
	t.Helper()
	r, e := span.Parse(s)
	if e != api.OK {
		t.Fatalf("P7.1: Parse(%q): error %d", s, e)
	}
	return r
}

// orders visits l in each of its orders.
func orders(l []string, visit func([]string)) {
	var place func(ahead, rest []string)
	place = func(ahead, rest []string) {
		if len(rest) == 0 {
			visit(ahead)
		}
		for i, v := range rest {
			place(slices.Concat(ahead, list(v)), slices.Concat(rest[:i], rest[i+1:]))
		}
	}
	place(nil, l)
}

func TestHighest(t *testing.T) {
	l := list("1", "2", "1.5", "3-rc", "3", "2.0", "9", "10", "0.9")
	for r, want := range map[string]string{
		"(,)": "10", "[1,3)": "3-rc", "[1,2)": "1.5", "[1,2]": "2.0", "(1,2)": "1.5", "[1]": "1", "[3]": "3", "(,1)": "0.9", "(,1]": "1", "[2,)": "10", "(2,)": "10", "(3,9]": "9", "(3,10)": "9", "[9,10]": "10",
		"[1],[2]": "2.0", "[1],[7]": "1", "[0],[1],[7]": "1", "(,0),(3,9],(10,)": "9", "(,1),(1,2)": "1.5", "[1.5],(9,10)": "1.5", "[3-rc,3)": "3-rc", "[3.0]": "3", "[1.0,1.5)": "1",
	} {
		wantHighest(t, l, parsed(t, r), want)
		wantPick(t, l, r, want)
	}
	for _, r := range []string{"(3,9)", "(10,)", "(,0.9)", "(1,1.5)", "[4]", "[7],[8]", "(1.5,2-rc),(3,9),(10,)", "[11,)"} {
		wantNoHighest(t, l, parsed(t, r))
		wantNoPick(t, l, r, api.ErrNone)
	}
}

// TestPickExample holds the chapter's example.
func TestPickExample(t *testing.T) {
	wantPick(t, list("1", "2", "3"), "[1,3)", "2")
}

func TestHighestOfNone(t *testing.T) {
	for _, l := range [][]string{nil, {}} {
		for _, r := range [][]api.Span{nil, {}, all(), {of("1", "2", true, true)}, {of("", "", true, true)}} {
			wantNoHighest(t, l, r)
		}
	}
	// No spans hold nothing; a span without bounds holds all.
	for _, r := range [][]api.Span{nil, {}} {
		wantNoHighest(t, list("1"), r)
		wantNoHighest(t, list("1", "2", ""), r)
	}
	wantHighest(t, list("1"), all(), "1")
}

// TestHighestOfTheSame asks for those that count the same: the greatest one byte by byte, in whatever order they come.
func TestHighestOfTheSame(t *testing.T) {
	same := list("1", "1.0", "01", "1-ga", "1.FINAL", "1.")
	for n := 1; n <= len(same); n++ {
		want := slices.Max(same[:n])
		orders(same[:n], func(l []string) {
			for _, r := range []string{"(,)", "[1]", "[1.0.0,2)", "(0,1.0]", "[0.5],[1-0]"} {
				wantHighest(t, l, parsed(t, r), want)
				wantPick(t, l, r, want)
			}
			wantNoPick(t, l, "(1,2)", api.ErrNone)
			// What is not held plays no part, however great it is.
			wantPick(t, slices.Concat(list("2"), l, list("3")), "(,2)", want)
		})
	}
	wantPick(t, list("1.X", "1.x", "1-x"), "[1,2]", "1.x")
	wantPick(t, list("1-ALPHA", "1-alpha", "1.alpha"), "(,)", "1.alpha")
}

func TestInWhateverOrder(t *testing.T) {
	orders(list("1-rc", "1", "1.0", "9", "10", "10-sp"), func(l []string) {
		wantPick(t, l, "(,)", "10-sp")
		wantPick(t, l, "(,10]", "10")
		wantPick(t, l, "(,10)", "9")
		wantPick(t, l, "(,9)", "1.0")
		wantPick(t, l, "(,1)", "1-rc")
		wantNoPick(t, l, "(,1-rc)", api.ErrNone)
	})
}

func TestHighestOfTheSameTwice(t *testing.T) {
	wantPick(t, list("2", "2", "1", "2"), "(,)", "2")
	wantPick(t, list("2", "1", "2", "1", "1"), "[1]", "1")
	wantNoPick(t, list("2", "2", "2"), "[1]", api.ErrNone)
}

// TestHighestOfWhatIsNoVersion: a text of l is asked by its words alone, whether or not it may be a version.
func TestHighestOfWhatIsNoVersion(t *testing.T) {
	long := strings.Repeat("7", api.MaxVersion+1)
	wantHighest(t, list(""), all(), "")
	wantHighest(t, list("", "0"), all(), "0")
	wantHighest(t, list("alpha", ""), all(), "")
	wantHighest(t, list("1", long, "2"), all(), long)
	wantHighest(t, list("1", "\xff", "0"), all(), "1")
	wantHighest(t, list("\x00", "\xff", "[1]"), all(), "\xff")
	wantHighest(t, list("1 2", "1.2", "1"), all(), "1.2")
	wantPick(t, list("1", long, "2"), "(,)", long)
	wantPick(t, list("1", long, "2"), "(,3]", "2")
	wantPick(t, list("", "1"), "(,1)", "")
	wantPick(t, list("", "1"), "[0]", "")
	wantNoPick(t, list("", "1"), "(0,1)", api.ErrNone)
}

// TestHighestOfSpans asks with spans that no range brings: whatever span.Holds says of them counts.
func TestHighestOfSpans(t *testing.T) {
	l := list("1", "2", "3")
	for _, r := range [][]api.Span{{of("2", "1", true, true)}, {of("2", "2", true, false)}, {of("2", "2", false, true)}, {of("9", "0", false, false), of("3", "1", true, true)}} {
		wantNoHighest(t, l, r)
	}
	wantHighest(t, l, spans(of("", "", true, true)), "3")
	wantHighest(t, l, spans(of("", "2", true, true)), "2")
	wantHighest(t, l, spans(of("2", "", true, true)), "3")
	// In whatever order they stand, one within another, or the same one twice: one that holds it is enough.
	wantHighest(t, l, spans(of("3", "3", true, true), of("1", "1", true, true)), "3")
	wantHighest(t, l, spans(of("1", "1", true, true), of("3", "3", true, true)), "3")
	wantHighest(t, l, spans(of("1", "2", true, true), of("1", "2", true, true)), "2")
	wantHighest(t, l, spans(of("1", "9", true, true), of("1", "1", true, true)), "3")
	wantHighest(t, l, spans(of("9", "1", true, true), of("1", "1", true, true), of("9", "1", true, true)), "1")
	var many []api.Span
	for i := range 10 * api.MaxSpans {
		v := strconv.Itoa(1000 - i)
		many = append(many, of(v, v, true, true))
	}
	wantNoHighest(t, l, many)
	wantHighest(t, list("1", "801", "802", "800.5"), many, "802")
}

// everyList visits all lists of n of the pool at most.
func everyList(pool []string, n int, visit func([]string)) {
	var grow func(l []string)
	grow = func(l []string) {
		visit(l)
		if len(l) == n {
			return
		}
		for _, v := range pool {
			grow(slices.Concat(l, list(v)))
		}
	}
	grow(nil)
}

// draft tells the highest one by its place: it is held, and each other one that is held is below it, or no other text.
func draft(l []string, r []api.Span) (string, bool) {
	for _, v := range l {
		most := span.Holds(r, v)
		for _, w := range l {
			n := order.Compare(w, v)
			if span.Holds(r, w) && (n > 0 || n == 0 && w > v) {
				most = false
			}
		}
		if most {
			return v, true
		}
	}
	return "", false
}

func TestHighestAgainstADraft(t *testing.T) {
	ranges := []string{"(,)", "[1]", "[1,2)", "(1,2]", "(,1)", "[2,)", "[1],[2]", "(,1),(1,2),(2,)", "[0,1-rc],[1.5,2)", "[7]"}
	everyList(list("", "0", "1-rc", "1", "1.0", "1-sp", "1.5", "2-m1", "2", "2.ga", "10", "x"), 3, func(l []string) {
		for _, s := range ranges {
			r := parsed(t, s)
			v, is := draft(l, r)
			if is {
				wantHighest(t, l, r, v)
				wantPick(t, l, s, v)
			} else {
				wantNoHighest(t, l, r)
				wantNoPick(t, l, s, api.ErrNone)
			}
		}
	})
}

// TestPickVersion: a version stands for itself, whether or not it is one of l, or counts as one of l does.
func TestPickVersion(t *testing.T) {
	for _, l := range [][]string{nil, {}, {"1"}, {"2", "1", "10"}, {"1.0", "1.ga"}, {"", "[1]", "1 2"}} {
		for _, want := range []string{"1", "1.0", "4", "01", "1-SNAPSHOT", "1.0.0-RC1", "latest", "-", ".", "0", "a:b", "{1}", "~!#$%&'*+/:;<=>?@^_`|{}\\\"", strings.Repeat("9", api.MaxVersion)} {
			wantPick(t, l, want, want)
		}
		for _, want := range []string{"", " ", "1 ", " 1", "1 2", "1,2", ",", "1]", "]", ")", "1)", "1[", "1(", "1[2", "1,2)", "1]x", " [1]", " [1,2)", ",[1]", "x[1,2)", "\x00", "1\n", "\t[1]", "1\x7f", "\xff", "1\u00e4", strings.Repeat("9", api.MaxVersion+1), strings.Repeat("9", 1_000_000)} {
			wantNoPick(t, l, want, api.ErrVersion)
		}
	}
}

func TestPickEachByte(t *testing.T) {
	l := list("1", "a", "z")
	for c := range 256 {
		b := string([]byte{byte(c)})
		for _, want := range []string{b, b + "a", b + "1,2)", b + "a]"} {
			switch {
			case c == '[' || c == '(':
				wantLikeParse(t, l, want)
			case words.Right(want):
				wantPick(t, l, want, want)
			default:
				wantNoPick(t, l, want, api.ErrVersion)
			}
		}
		if want := "a" + b; words.Right(want) {
			wantPick(t, l, want, want)
		} else {
			wantNoPick(t, l, want, api.ErrVersion)
		}
		wantLikeParse(t, l, "[a"+b+"z]")
		wantLikeParse(t, l, "("+b+",)")
	}
}

// wantLikeParse asks for a text that is meant as a range.
func wantLikeParse(t *testing.T, l []string, want string) {
	t.Helper()
	r, e := span.Parse(want)
	v, is := draft(l, r)
	switch {
	case e != api.OK:
		wantNoPick(t, l, want, e)
	case !is:
		wantNoPick(t, l, want, api.ErrNone)
	default:
		wantPick(t, l, want, v)
	}
}

// TestPickWrongRange: what begins like a range is never taken as a version, and what is wrong with it goes ahead of what l has.
func TestPickWrongRange(t *testing.T) {
	for _, want := range []string{"[", "(", "[]", "()", "[1", "(1", "[1,", "[1,2", "(1)", "[1)", "(1]", "[2,1]", "[9,1]", "[1,1)", "(1,1]", "[,1]", "[1,]", "[1,2,3]", "[1,2]x", "[1,2],", "[1,2] ", "[1,2], [3,4]", "[1],[1]", "[3],[2]", "[1,),[2]", "[1 2]", "[1\t]", "(\xff,)", "[x", "[[1]]", "[" + strings.Repeat("9", api.MaxVersion+1) + "]"} {
		for _, l := range [][]string{nil, {}, {"1"}, {"1", "2", "3"}, {want}} {
			wantNoPick(t, l, want, api.ErrRange)
		}
	}
}

func TestPickBlanks(t *testing.T) {
	l := list("1", "2", "3")
	wantPick(t, l, "[ 1 , 3 )", "2")
	wantPick(t, l, "[ 2 ]", "2")
	wantPick(t, l, "( , )", "3")
	wantPick(t, l, "(  ,2),(  2  ,3 )", "1")
	wantNoPick(t, l, "( 2 , 3 )", api.ErrNone)
}

func TestPickOfNone(t *testing.T) {
	for _, l := range [][]string{nil, {}} {
		for _, want := range []string{"(,)", "[1]", "[1,2)", "(,1),(1,)"} {
			wantNoPick(t, l, want, api.ErrNone)
		}
	}
}

// TestPickIsNoneOfTheRangesBounds: a bound is picked only where it is one of l, with the text that it has there.
func TestPickIsNoneOfTheRangesBounds(t *testing.T) {
	wantNoPick(t, list("1", "3"), "[2]", api.ErrNone)
	wantNoPick(t, list("1", "3"), "[2,2.5]", api.ErrNone)
	wantPick(t, list("1", "3"), "[0,2]", "1")
	wantPick(t, list("2.0"), "[2]", "2.0")
	wantPick(t, list("2"), "[2.0]", "2")
	wantPick(t, list("2", "2.0"), "[2]", "2.0")
}

func TestPickMaxSpans(t *testing.T) {
	var texts, l []string
	for i := range api.MaxSpans + 1 {
		v := strconv.Itoa(i + 1)
		l = append(l, v+".0", v+".5")
		texts = append(texts, "["+v+"]")
		want := strings.Join(texts, ",")
		if i < api.MaxSpans {
			wantPick(t, l, want, v+".0")
			wantPick(t, l[:1], want, "1.0")
			wantNoPick(t, list("99", "1.5"), want, api.ErrNone)
		} else {
			wantNoPick(t, l, want, api.ErrRange)
		}
	}
}

// TestPickEveryShortText goes through all short texts of what ranges are written with.
func TestPickEveryShortText(t *testing.T) {
	l := list("1", "1.0", "2-rc", "2", "12")
	everyList(list("[", "]", "(", ")", ",", " ", "1", "2", "-"), 5, func(parts []string) {
		want := strings.Join(parts, "")
		switch {
		case strings.HasPrefix(want, "[") || strings.HasPrefix(want, "("):
			wantLikeParse(t, l, want)
		case want != "" && !strings.ContainsAny(want, "[](), "):
			wantPick(t, l, want, want)
		default:
			wantNoPick(t, l, want, api.ErrVersion)
		}
	})
}

// TestPickedIsHeld is what follows.
func TestPickedIsHeld(t *testing.T) {
	l := list("alpha", "1-alpha", "1-beta-2", "1-m3", "1-rc", "1-SNAPSHOT", "1", "1.0", "1-sp", "1-x", "1-1", "1.0.1", "1.1", "2-rc", "2", "10", "x")
	for _, low := range append(slices.Clone(l), "") {
		for _, high := range append(slices.Clone(l), "") {
			for _, want := range list("["+low+","+high+"]", "["+low+","+high+")", "("+low+","+high+"]", "("+low+","+high+")", "["+low+"]") {
				r, e := span.Parse(want)
				v, picked := Pick(l, want)
				if e != api.OK {
					wantNoPick(t, l, want, api.ErrRange)
				} else if picked == api.OK && (!slices.Contains(l, v) || !span.Holds(r, v)) {
					t.Errorf("What follows: Pick(%q): %q, which is not held", want, v)
				} else if picked != api.OK && slices.ContainsFunc(l, func(v string) bool { return span.Holds(r, v) }) {
					t.Errorf("What follows: Pick(%q): error %d, and one is held", want, picked)
				}
			}
		}
	}
}

func TestOfMany(t *testing.T) {
	var l []string
	for i := range 20_000 {
		l = append(l, strconv.Itoa(i*7919%20_000))
	}
	wantPick(t, l, "(,)", "19999")
	wantPick(t, l, "[5,12345)", "12344")
	wantPick(t, l, "[0],[19999]", "19999")
	wantPick(t, l, "(,1)", "0")
	wantNoPick(t, l, "(7,8),[20000,)", api.ErrNone)
	wantHighest(t, list(strings.Repeat("1.", 200_000), "1"), all(), strings.Repeat("1.", 200_000))
}

func TestLeavesItsArguments(t *testing.T) {
	versions, bounds := list("3", "1", "2", "1.0", "9"), spans(of("1", "2", true, true), of("3", "", true, false), of("0", "1", true, true))
	keptVersions, keptBounds := slices.Clone(versions), slices.Clone(bounds)
	for n := range len(versions) + 1 {
		for m := range len(bounds) + 1 {
			Highest(versions[:n], bounds[:m])
		}
		Pick(versions[:n], "[1,3)")
		Pick(versions[:n], "(3,)")
		Pick(versions[:n], "1")
		Pick(versions[:n], "[1")
	}
	if !slices.Equal(versions, keptVersions) || !slices.Equal(bounds, keptBounds) {
		t.Errorf("R3: what was handed in was turned to %q and %v", versions, bounds)
	}
	// What is asked is told by what stands there then, not by what stood there once.
	wantHighest(t, versions[:3], bounds[:1], "2")
	versions[2], bounds[0].High = "1.7", "1.5"
	wantHighest(t, versions[:3], bounds[:1], "1")
	versions[1] = "1.2"
	wantHighest(t, versions[:3], bounds[:1], "1.2")
}

func TestManyAtATime(t *testing.T) {
	l := list("3", "1", "2", "1.0", "10")
	var calls sync.WaitGroup
	for range 8 {
		calls.Go(func() {
			for range 200 {
				wantPick(t, l, "[1,3)", "2")
				wantPick(t, l, "[1]", "1.0")
				wantHighest(t, l, all(), "10")
				wantNoPick(t, l, "(3,10)", api.ErrNone)
			}
		})
	}
	calls.Wait()
}
