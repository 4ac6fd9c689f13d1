package coord

import (
	"cmp"
	"slices"
	"strings"
	"sync"
	"testing"

	"newel/api"
	"newel/order"
	"newel/words"
)

const letters = "ABCDEFGHIJKLMNOPQRSTUVWXYZabcdefghijklmnopqrstuvwxyz"

func of(group, name, version string) api.Coord {
	return api.Coord{Group: group, Name: name, Version: version}
}

func list(l ...string) []string { return l }

func wantId(t *testing.T, s string, want bool) {
	t.Helper()
	if is := Id(s); is != want {
		t.Errorf("P9.1: Id(%.80q, %d bytes): %v", s, len(s), is)
	}
}

// wantRight asks for c that may name a project, and for its text, there and back.
func wantRight(t *testing.T, c api.Coord) {
	t.Helper()
	if !Right(c) {
		t.Errorf("P9.1: Right(%.200q): false", c)
	}
	s := c.Group + ":" + c.Name + ":" + c.Version
	if got := Text(c); got != s {
		t.Errorf("P9.1: Text(%.200q): %.200q; want %.200q", c, got, s)
	}
	if got, is := Parse(s); got != c || !is {
		t.Errorf("P9.1: Parse(%.200q): %.200q, %v; want %.200q", s, got, is, c)
	}
}

// wantWrong asks for c that may name no project: its text may be some other project's.
func wantWrong(t *testing.T, c api.Coord) {
	t.Helper()
	if Right(c) {
		t.Errorf("P9.1: Right(%.200q): true", c)
	}
	s := c.Group + ":" + c.Name + ":" + c.Version
	if got := Text(c); got != s {
		t.Errorf("P9.1: Text(%.200q): %.200q; want %.200q", c, got, s)
	}
	if got, is := Parse(s); is && (got == c || Text(got) != s) {
		t.Errorf("P9.1: Parse(%.200q): %.200q", s, got)
	}
}

func wantNone(t *testing.T, s string) {
	t.Helper()
	if c, is := Parse(s); c != (api.Coord{}) || is {
		t.Errorf("P9.1: Parse(%.200q): %.200q, %v; want none", s, c, is)
	}
}

func wantKey(t *testing.T, d api.Dep, want string) {
	t.Helper()
	if k := Key(d); k != want {
		t.Errorf("P9.1: Key(%.200v): %.200q; want %.200q", d, k, want)
	}
}

// wantRising asks of each two of l whether the one is less than the other.
func wantRising(t *testing.T, l ...api.Coord) {
	t.Helper()
	for i, a := range l {
		for k, b := range l {
			if less := Less(a, b); less != (i < k) {
				t.Errorf("P9.1: Less(%.80q, %.80q): %v", a, b, less)
			}
		}
	}
}

// everyText visits all texts of n parts of the pool at most.
func everyText(pool []string, n int, visit func(string)) {
	var grow func(s string, left int)
	grow = func(s string, left int) {
		visit(s)
		if left == 0 {
			return
		}
		for _, p := range pool {
			grow(s+p, left-1)
		}
	}
	grow("", n)
}

func TestId(t *testing.T) {
	for _, s := range list("a", "Z", "0", "9", "_", "-", ".", "..", "--", "org.example", "com.example.Some_Thing-2", "1.0-alpha", letters, "0123456789_-.", "jar", "import") {
		wantId(t, s, true)
	}
	for _, s := range list("", " ", " a", "a ", "a b", "a:b", ":", "*", "a*", "a/b", "a\\b", "a,b", "[a]", "(a)", "${a}", "$", "{", "}", "a\tb", "a\n", "\r", "\x00", "a\x00", "\x7f", "\xff", "\xc3\xa4", "a\u00e9", "\u0430", "\uff11", "\u212a", "a+b", "a@b", "a`b", "a^b", "a=b", "<a>", "a&b", "'a'", "\"a\"", "a#b", "a%b", "a;b", "a?b", "a|b", "a~b", "a!b") {
		wantId(t, s, false)
	}
}

// TestIdEachByte puts each byte alone, ahead, in the midst, and at the end.
func TestIdEachByte(t *testing.T) {
	for c := range 256 {
		b := string([]byte{byte(c)})
		want := strings.Contains(letters+"0123456789_-.", b)
		for _, s := range list(b, b+"a", "a"+b+"a", "a"+b, b+b) {
			wantId(t, s, want)
			for _, p := range []api.Coord{of(s, "a", "1"), of("g", s, "1"), of(s, s, "1")} {
				if want {
					wantRight(t, p)
				} else {
					wantWrong(t, p)
				}
			}
		}
	}
}

func TestIdEachLength(t *testing.T) {
	for n := range api.MaxField + 20 {
		s := strings.Repeat("a", n)
		want := n >= 1 && n <= api.MaxField
		wantId(t, s, want)
		if n > 0 {
			wantId(t, s[1:]+":", false)
			wantId(t, ":"+s[1:], false)
		}
	}
	for _, n := range []int{api.MaxField + 1, 10_000, 1_000_000} {
		wantId(t, strings.Repeat("a", n), false)
		wantWrong(t, of(strings.Repeat("a", n), "a", "1"))
		wantWrong(t, of("g", strings.Repeat("a", n), "1"))
	}
	// Bytes count, not runes.
	wantId(t, strings.Repeat("\u00e4", api.MaxField/2), false)
}

func TestRight(t *testing.T) {
	for _, c := range []api.Coord{
		of("g", "a", "1"), of("org.example", "some-thing", "1.0-SNAPSHOT"), of(".", "-", "_"), of("1", "2", "3"), of("g", "g", "g"),
		of("g", "a", "${v}"), of("g", "a", "1+2"), of("g", "a", "*"), of("g", "a", "/"), of("g", "a", "{}"), of("g", "a", "!~"), of("g", "a", "<1>"), of("g", "a", "-"), of("g", "a", "."),
	} {
		wantRight(t, c)
	}
	for _, c := range []api.Coord{
		{}, of("", "a", "1"), of("g", "", "1"), of("g", "a", ""), of("g", "", ""), of("", "a", ""), of("", "", "1"),
		of("g:", "a", "1"), of(":g", "a", "1"), of("g", "a:", "1"), of("g", ":a", "1"), of("g:a", "a", "1"), of("g", "a:b", "1"), of(":", "a", "1"), of("g", ":", "1"),
		of("g", "a", ":"), of("g", "a", "1:"), of("g", "a", ":1"), of("g", "a", "1:2"),
		of("g", "a", "1 2"), of("g", "a", " 1"), of("g", "a", "1 "), of("g", "a", "[1]"), of("g", "a", "(1"), of("g", "a", "1)"), of("g", "a", "1,2"), of("g", "a", "1\n"), of("g", "a", "1\x7f"), of("g", "a", "\xff"), of("g", "a", "\x00"),
		of("*", "a", "1"), of("g", "*", "1"), of("${g}", "a", "1"), of("g", "${a}", "1"), of("g g", "a", "1"), of(" g", "a", "1"), of("g", "a ", "1"), of("g/h", "a", "1"),
	} {
		wantWrong(t, c)
	}
}

// TestRightVersionEachByte: of a version ":" alone is refused beside what words.Right refuses.
func TestRightVersionEachByte(t *testing.T) {
	for c := range 256 {
		b := string([]byte{byte(c)})
		for _, v := range list(b, b+"1", "1"+b+"1", "1"+b) {
			may := c >= 33 && c <= 126 && !strings.Contains("[](),:", b)
			if may != (words.Right(v) && c != ':') {
				t.Fatalf("P5.1: Right(%q): %v", v, !may)
			}
			if may {
				wantRight(t, of("g", "a", v))
			} else {
				wantWrong(t, of("g", "a", v))
				wantNone(t, "g:a:"+v)
			}
		}
	}
}

func TestRightLongest(t *testing.T) {
	id, version := strings.Repeat("x", api.MaxField), strings.Repeat("9", api.MaxVersion)
	wantRight(t, of(id, id, version))
	wantRight(t, of("g", "a", version))
	wantWrong(t, of(id+"x", id, version))
	wantWrong(t, of(id, id+"x", version))
	wantWrong(t, of(id, id, version+"9"))
	wantWrong(t, of("g", "a", version+"9"))
	for _, s := range list(id+"x:a:1", "g:"+id+"x:1", "g:a:"+version+"9", strings.Repeat(":", 1_000_000), strings.Repeat("a", 1_000_000), "g:a:"+strings.Repeat("1", 1_000_000), strings.Repeat("g:", 500_000)) {
		wantNone(t, s)
	}
}

// TestTextExample holds the chapter's example.
func TestTextExample(t *testing.T) {
	if s := Text(of("g", "a", "1")); s != "g:a:1" {
		t.Errorf("P9.1: Text: %q", s)
	}
}

// TestTextOfWhatIsNotRight: a text is told of whatever stands there.
func TestTextOfWhatIsNotRight(t *testing.T) {
	for want, c := range map[string]api.Coord{
		"::": {}, ":::": of(":", "", ""), "::1": of("", "", "1"), "g::": of("g", "", ""), ":a:": of("", "a", ""), " g : a : 1 ": of(" g ", " a ", " 1 "), "${g}:*:[1,2)": of("${g}", "*", "[1,2)"), "\xff:\x00:\n": of("\xff", "\x00", "\n"), "a:b:c:d:e": of("a:b", "c", "d:e"),
	} {
		if s := Text(c); s != want {
			t.Errorf("P9.1: Text(%q): %q; want %q", c, s, want)
		}
	}
}

func TestParseNone(t *testing.T) {
	for _, s := range list("", ":", "::", ":::", "a", "a:", ":a", "a:b", "a:b:", "a::1", ":a:1", "::1", "a::", ":a:", "a:b:1:", ":a:b:1", "a:b:1:2", "a::b:1", "a:b::1", "a:b:jar:1", "a b:c:1", " a:b:1", "a:b:1 ", "a: b:1", "a:b: 1", "a:b:[1]", "a:b:[1,2)", "a:b:(,)", "*:b:1", "a:*:1", "${a}:b:1", "a:${b}:1", "a/b/1", "a;b;1", "a.b.1", "a:b\n:1", "a:b:1\n", "\xff:b:1", "a:b:\xff", "a:b:\x00") {
		wantNone(t, s)
	}
}

// draft answers the project whose text s is from a look at all ways to part it.
func draft(s string) (api.Coord, bool) {
	for i := range len(s) {
		for k := i + 1; k < len(s); k++ {
			if s[i] != ':' || s[k] != ':' {
				continue
			}
			c := of(s[:i], s[i+1:k], s[k+1:])
			ids := letters + "0123456789_-."
			if c.Group != "" && c.Name != "" && strings.Trim(c.Group+c.Name, ids) == "" && words.Right(c.Version) && !strings.Contains(c.Version, ":") {
				return c, true
			}
		}
	}
	return api.Coord{}, false
}

// TestParseEveryShortText holds Parse against a draft, and against Text.
func TestParseEveryShortText(t *testing.T) {
	right := 0
	everyText(list(":", "a", "1", "-", " ", "$", "["), 7, func(s string) {
		want, may := draft(s)
		c, is := Parse(s)
		if c != want || is != may {
			t.Fatalf("P9.1: Parse(%q): %q, %v; want %q, %v", s, c, is, want, may)
		}
		if is {
			right++
			wantRight(t, c)
		}
	})
	if right < 1000 {
		t.Errorf("P9.1: but %d texts were parsed", right)
	}
}

// TestWhatIsToldIsParsed is what follows.
func TestWhatIsToldIsParsed(t *testing.T) {
	fields := list("", "g", "a.b", "1", "1.0-rc", "-", "_", ".", ":", "a:b", "*", "${v}", " ", "[1]", "\xff", strings.Repeat("n", api.MaxVersion), strings.Repeat("n", api.MaxVersion+1), strings.Repeat("n", api.MaxField), strings.Repeat("n", api.MaxField+1))
	for _, group := range fields {
		for _, name := range fields {
			for _, version := range fields {
				c := of(group, name, version)
				if Right(c) {
					wantRight(t, c)
				} else {
					wantWrong(t, c)
				}
			}
		}
	}
}

func TestKey(t *testing.T) {
	for _, row := range []struct {
		d    api.Dep
		want string
	}{
		{api.Dep{}, "::jar:"},
		{api.Dep{Group: "g"}, "g::jar:"},
		{api.Dep{Name: "a"}, ":a:jar:"},
		{api.Dep{Group: "g", Name: "a"}, "g:a:jar:"},
		{api.Dep{Group: "g", Name: "a", Type: "jar"}, "g:a:jar:"},
		{api.Dep{Group: "g", Name: "a", Type: "pom"}, "g:a:pom:"},
		{api.Dep{Group: "g", Name: "a", Type: "JAR"}, "g:a:JAR:"},
		{api.Dep{Group: "g", Name: "a", Type: " "}, "g:a: :"},
		{api.Dep{Group: "g", Name: "a", Type: "${t}"}, "g:a:${t}:"},
		{api.Dep{Group: "g", Name: "a", Classifier: "sources"}, "g:a:jar:sources"},
		{api.Dep{Group: "g", Name: "a", Classifier: "jar"}, "g:a:jar:jar"},
		{api.Dep{Group: "g", Name: "a", Type: "zip", Classifier: "x"}, "g:a:zip:x"},
		{api.Dep{Group: "a", Name: "g", Type: "x", Classifier: "zip"}, "a:g:x:zip"},
		{api.Dep{Type: "pom"}, "::pom:"},
		{api.Dep{Classifier: "x"}, "::jar:x"},
		{api.Dep{Group: ":", Name: "a:b", Type: ":", Classifier: "\xff"}, "::a:b:::\xff"},
	} {
		wantKey(t, row.d, row.want)
		// What is not in the key plays no part.
		d := row.d
		d.Version, d.Scope, d.Optional, d.Excluded = "1", "import", true, []api.Excluded{{Group: "*", Name: "*"}}
		wantKey(t, d, row.want)
		d.Version, d.Scope = "[1,2)", "test"
		wantKey(t, d, row.want)
	}
	long := strings.Repeat("k", 10*api.MaxField)
	wantKey(t, api.Dep{Group: long, Name: long, Type: long, Classifier: long}, long+":"+long+":"+long+":"+long)
}

func TestLess(t *testing.T) {
	wantRising(t,
		of("", "", ""), of("", "", "1"), of("", "a", ""), of("", "b", ""), of("A", "z", "9"), of("a", "", "9"), of("a", "A", "9"), of("a", "a", "1-alpha"), of("a", "a", "1-rc"), of("a", "a", "1"), of("a", "a", "1.0"), of("a", "a", "1.00"), of("a", "a", "1-sp"), of("a", "a", "1-x"), of("a", "a", "1-1"), of("a", "a", "1.1"), of("a", "a", "2"), of("a", "a", "10"),
		of("a", "a-b", "1"), of("a", "a.b", "1"), of("a", "a1", "1"), of("a", "ab", "0"), of("a", "b", "0"), of("a-b", "a", "1"), of("a.b", "a", "1"), of("aa", "", ""), of("b", "a", "1"), of("b", "a", "1.a"), of("\xff", "", ""), of("\xff", "\x00", ""), of("\xff", "\xfe", ""))
}

// TestLessOfFields: the first field that tells counts, however the others stand.
func TestLessOfFields(t *testing.T) {
	wantRising(t, of("a", "z", "9"), of("b", "y", "8"), of("c", "a", "1"), of("c", "b", "0"))
	wantRising(t, of("g", "a", "9"), of("g", "b", "10"), of("g", "c", "1"))
	wantRising(t, of("g10", "a", "1"), of("g9", "a", "1"), of("g9", "a10", "1"), of("g9", "a9", "1"), of("g9", "a9", "9"), of("g9", "a9", "10"))
	// No mark stands between the fields: none is read across their ends.
	wantRising(t, of("a", "bc", "1"), of("ab", "c", "1"), of("abc", "", "1"))
	wantRising(t, of("a", "b", "1"), of("a", "b1", ""))
	wantRising(t, of("g", "a", "1:1"), of("g", "a:1", "1"))
}

// TestLessOfTheSameVersion: what counts the same is parted by bytes.
func TestLessOfTheSameVersion(t *testing.T) {
	same := list("01", "1", "1-0", "1-FINAL", "1-final", "1-ga", "1.", "1.0", "1.0.0", "1.GA", "1.release")
	var l []api.Coord
	for i, v := range same {
		if order.Compare(v, "1") != 0 || i > 0 && same[i-1] >= v {
			t.Fatalf("P6.1: %q does not stand as it should", v)
		}
		l = append(l, of("g", "a", v))
	}
	wantRising(t, l...)
	wantRising(t, of("g", "a", "1-ALPHA"), of("g", "a", "1-alpha"), of("g", "a", "1-RC"), of("g", "a", "1-rc"), of("g", "a", "1"))
	wantRising(t, of("g", "a", "1-X"), of("g", "a", "1-x"), of("g", "a", "1-y"))
	wantRising(t, of("g", "a", "alpha"), of("g", "a", ""), of("g", "a", "0"))
}

// TestLessIsAnOrder holds Less against a draft, and sorts by it from whatever order.
func TestLessIsAnOrder(t *testing.T) {
	var l []api.Coord
	for _, group := range list("", "a", "b", "ab") {
		for _, name := range list("", "a", "A") {
			for _, version := range list("", "1", "1.0", "10", "2", "1-rc", "x", "\xff") {
				l = append(l, of(group, name, version))
			}
		}
	}
	for _, a := range l {
		for _, b := range l {
			n := cmp.Compare(a.Group, b.Group)
			if n == 0 {
				n = cmp.Compare(a.Name, b.Name)
			}
			if n == 0 {
				n = order.Compare(a.Version, b.Version)
			}
			if n == 0 {
				n = cmp.Compare(a.Version, b.Version)
			}
			if Less(a, b) != (n < 0) {
				t.Errorf("P9.1: Less(%q, %q): %v", a, b, n >= 0)
			}
			if a != b && Less(a, b) == Less(b, a) {
				t.Errorf("P9.1: Less tells neither of %q, %q, or both", a, b)
			}
		}
	}
}

func TestManyAtATime(t *testing.T) {
	a, b := of("g", "a", "1"), of("g", "a", "1.0")
	var calls sync.WaitGroup
	for range 8 {
		calls.Go(func() {
			for range 200 {
				wantRight(t, a)
				wantWrong(t, of("g", "a:b", "1"))
				wantRising(t, a, b)
				wantKey(t, api.Dep{Group: "g", Name: "a"}, "g:a:jar:")
			}
		})
	}
	calls.Wait()
}

func TestLeavesItsArguments(t *testing.T) {
	excluded := []api.Excluded{{Group: "g", Name: "a"}, {Group: "*", Name: "*"}}
	d := api.Dep{Group: "g", Name: "a", Excluded: excluded[:1]}
	Key(d)
	if d.Type != "" || !slices.Equal(excluded, []api.Excluded{{Group: "g", Name: "a"}, {Group: "*", Name: "*"}}) {
		t.Errorf("R3: what was handed in was turned to %v", d)
	}
}
