package markup

import (
	"math"
	"slices"
	"strconv"
	"strings"
	"testing"

	"newel/api"
	"newel/element"
	"newel/token"
)

func elem(parent int, name string, attrs ...api.Attr) api.Node {
	return api.Node{Parent: parent, Name: name, Attrs: attrs}
}

func words(parent int, s string) api.Node { return api.Node{Parent: parent, Text: s} }
func attr(name, value string) api.Attr    { return api.Attr{Name: name, Value: value} }
func list(l ...api.Node) []api.Node       { return l }

func same(a, b []api.Node) bool {
	return slices.EqualFunc(a, b, func(x, y api.Node) bool {
		return x.Parent == y.Parent && x.Name == y.Name && x.Text == y.Text && slices.Equal(x.Attrs, y.Attrs)
	})
}

func wantRight(t *testing.T, l ...api.Node) {
	t.Helper()
	if !Right(l) {
		t.Errorf("P4.1: Right(%.200v) of %d nodes: false", l, len(l))
	}
	if s, e := Write(l); e != api.OK || s == "" {
		t.Errorf("P4.2: Write(%.200v) of %d nodes: %.40q, error %d", l, len(l), s, e)
	}
}

func wantWrong(t *testing.T, l ...api.Node) {
	t.Helper()
	if Right(l) {
		t.Errorf("P4.1: Right(%.200v) of %d nodes: true", l, len(l))
	}
	if s, e := Write(l); e != api.ErrTree || s != "" {
		t.Errorf("P4.2: Write(%.200v) of %d nodes: %.40q, error %d; want error %d", l, len(l), s, e, api.ErrTree)
	}
}

// wantWrite holds the file against its text, and against the tree that is parsed from it.
func wantWrite(t *testing.T, want string, l ...api.Node) {
	t.Helper()
	s, e := Write(l)
	if e != api.OK || s != want {
		t.Errorf("P4.2: Write(%.200v): %.200q, error %d; want %.200q", l, s, e, want)
	}
	if got, e := element.Parse(s); e != api.OK || !same(got, l) {
		t.Errorf("What follows: %.200q is parsed as %.200v, error %d; it was %.200v", s, got, e, l)
	}
}

func TestEscape(t *testing.T) {
	for _, r := range [][2]string{
		{"", ""},
		{"plain", "plain"},
		{"&", "&amp;"}, {"<", "&lt;"}, {">", "&gt;"}, {`"`, "&quot;"},
		{"'", "'"},
		{"a<b>c", "a&lt;b&gt;c"},
		{"&amp;", "&amp;amp;"}, {"&lt;", "&amp;lt;"}, {"&#60;", "&amp;#60;"},
		{`<a b="1">&'</a>`, "&lt;a b=&quot;1&quot;&gt;&amp;'&lt;/a&gt;"},
		{"]]>", "]]&gt;"},
		{"\t\n\r ", "\t\n\r "},
		{"\x00\x01\xff", "\x00\x01\xff"},
		{"ä€\U0001f600<", "ä€\U0001f600&lt;"},
		{strings.Repeat("&<", 200_000), strings.Repeat("&amp;&lt;", 200_000)},
	} {
		if got := Escape(r[0]); got != r[1] {
			t.Errorf("P4.1: Escape(%.40q): %.40q; want %.40q", r[0], got, r[1])
		}
	}
}

func TestEscapeByEachByte(t *testing.T) {
	for c := range 256 {
		s := string([]byte{byte(c)})
		want := s
		switch s {
		case "&":
			want = "&amp;"
		case "<":
			want = "&lt;"
		case ">":
			want = "&gt;"
		case `"`:
			want = "&quot;"
		}
		for _, around := range []string{"", "x", "&", "\xe2\x82"} {
			left := Escape(around)
			if got := Escape(around + s + around); got != left+want+left {
				t.Errorf("P4.1: Escape(%q): %q; want %q", around+s+around, got, left+want+left)
			}
		}
	}
}

func TestEscapedIsReadAsItWas(t *testing.T) {
	pieces := []string{"&", "<", ">", `"`, "'", ";", "#", "x", "amp", "lt", "\xff"}
	var all func(s string, more int)
	all = func(s string, more int) {
		if got, e := token.Entities(Escape(s)); e != api.OK || got != s {
			t.Fatalf("P4.1: Escape(%q): %q, which is read as %q, error %d", s, Escape(s), got, e)
		}
		if more > 0 {
			for _, p := range pieces {
				all(s+p, more-1)
			}
		}
	}
	all("", 4)
}

func TestWriteOrdinary(t *testing.T) {
	wantWrite(t, "<a/>", elem(-1, "a"))
	wantWrite(t, "<a>x</a>", elem(-1, "a"), words(0, "x"))
	wantWrite(t, "<a><b/></a>", elem(-1, "a"), elem(0, "b"))
	wantWrite(t, "<a><b/><b/></a>", elem(-1, "a"), elem(0, "b"), elem(0, "b"))
	wantWrite(t, "<a><b><c/></b></a>", elem(-1, "a"), elem(0, "b"), elem(1, "c"))
	wantWrite(t, "<a>x<b>y<c/>z</b><d/>w</a>",
		elem(-1, "a"), words(0, "x"), elem(0, "b"), words(2, "y"), elem(2, "c"), words(2, "z"), elem(0, "d"), words(0, "w"))
	wantWrite(t, "<a><b><c><d>x</d></c></b>y<e><f/></e></a>",
		elem(-1, "a"), elem(0, "b"), elem(1, "c"), elem(2, "d"), words(3, "x"), words(0, "y"), elem(0, "e"), elem(6, "f"))
	wantWrite(t, "<a><b>x</b>y</a>", elem(-1, "a"), elem(0, "b"), words(1, "x"), words(0, "y"))
	wantWrite(t, "<a><a><a/></a>x</a>", elem(-1, "a"), elem(0, "a"), elem(1, "a"), words(0, "x"))
}

func TestWriteEscapes(t *testing.T) {
	wantWrite(t, "<a>&amp;&lt;&gt;&quot;'&amp;lt;]]&gt;</a>", elem(-1, "a"), words(0, `&<>"'&lt;]]>`))
	wantWrite(t, `<a b="&amp;&lt;&gt;&quot;'" c="" xml:lang=" ' "/>`,
		elem(-1, "a", attr("b", `&<>"'`), attr("c", ""), attr("xml:lang", " ' ")))
	wantWrite(t, `<a z="1" b="2"><c b="3">x</c><d b="4"/></a>`,
		elem(-1, "a", attr("z", "1"), attr("b", "2")), elem(0, "c", attr("b", "3")), words(1, "x"), elem(0, "d", attr("b", "4")))
	wantWrite(t, "<a b=\"\t\n\r ä\xff\">\t\n\r ä\xff</a>", elem(-1, "a", attr("b", "\t\n\r ä\xff")), words(0, "\t\n\r ä\xff"))
	wantWrite(t, "<a> <b> </b>\n</a>", elem(-1, "a"), words(0, " "), elem(0, "b"), words(2, " "), words(0, "\n"))
}

func TestRoot(t *testing.T) {
	wantWrong(t)
	wantRight(t, elem(-1, "a"))
	wantWrong(t, words(-1, "x"))
	wantWrong(t, api.Node{})
	wantWrong(t, api.Node{Parent: -1})
	for _, parent := range []int{math.MinInt, -2, 0, 1, math.MaxInt} {
		wantWrong(t, elem(parent, "a"))
		wantWrong(t, elem(parent, "a"), elem(0, "b"))
	}
	wantWrong(t, elem(-1, "a"), elem(-1, "b"))
	wantWrong(t, elem(-1, "a"), words(-1, "x"))
	wantWrong(t, words(-1, "x"), elem(-1, "a"))
	wantWrong(t, elem(1, "a"), elem(-1, "b"))
}

func TestParents(t *testing.T) {
	for _, parent := range []int{math.MinInt, -2, -1, 1, 2, 3, math.MaxInt} {
		wantWrong(t, elem(-1, "a"), elem(parent, "b"))
		wantWrong(t, elem(-1, "a"), words(parent, "x"))
		wantWrong(t, elem(-1, "a"), elem(parent, "b"), elem(0, "c"))
	}
	wantWrong(t, elem(-1, "a"), words(0, "x"), elem(1, "b"))
	wantWrong(t, elem(-1, "a"), words(0, "x"), words(1, "y"))
	wantWrong(t, elem(-1, "a"), elem(0, "b"), elem(0, "c"), elem(1, "d"))
	wantWrong(t, elem(-1, "a"), elem(0, "b"), elem(0, "c"), words(1, "x"))
	wantWrong(t, elem(-1, "a"), elem(0, "b"), words(0, "x"), elem(1, "c"))
	wantWrong(t, elem(-1, "a"), elem(0, "b"), words(0, "x"), words(1, "y"))
	wantWrong(t, elem(-1, "a"), elem(0, "b"), elem(1, "c"), elem(0, "d"), elem(2, "e"))
	// Two that name each other as parents.
	wantWrong(t, elem(-1, "a"), elem(2, "b"), elem(1, "c"))
	wantRight(t, elem(-1, "a"), elem(0, "b"), elem(1, "c"), elem(2, "d"), elem(1, "e"), elem(4, "f"), elem(0, "g"))
}

func TestNames(t *testing.T) {
	for _, s := range []string{"a", "Z", "_", "groupId", "xml:lang", "a-b.c:d_e9", strings.Repeat("n", 100_000)} {
		wantRight(t, elem(-1, s))
		wantRight(t, elem(-1, "a"), elem(0, s))
		wantRight(t, elem(-1, "a", attr(s, "")))
	}
	for _, s := range []string{" ", "9", "-a", ".a", ":a", " a", "a ", "a b", "a/", "a>", "<a", "a=", "a\n", "a\x00", "ä", "a\xff", "?", "!--", "a><b/"} {
		wantWrong(t, elem(-1, s))
		wantWrong(t, elem(-1, "a"), elem(0, s))
		wantWrong(t, elem(-1, "a", attr(s, "1")))
	}
	wantWrong(t, elem(-1, "a", attr("", "1")))
	wantWrong(t, elem(-1, "a", attr("", "")))
}

func TestAttrs(t *testing.T) {
	wantRight(t, elem(-1, "a", attr("b", "1"), attr("B", "1"), attr("a", "1")))
	wantRight(t, elem(-1, "a", attr("b", "1")), elem(0, "a", attr("b", "1")), elem(0, "a", attr("b", "1")))
	wantWrong(t, elem(-1, "a", attr("b", "1"), attr("b", "1")))
	wantWrong(t, elem(-1, "a", attr("b", "1"), attr("b", "2")))
	wantWrong(t, elem(-1, "a", attr("b", "1"), attr("c", "1"), attr("d", "1"), attr("b", "2")))
	wantWrong(t, elem(-1, "a", attr("c", "1"), attr("b", "1"), attr("b", "1"), attr("d", "1")))
	wantWrong(t, elem(-1, "a"), elem(0, "b", attr("c", "1"), attr("c", "2")), words(1, "x"))
	wantWrong(t, elem(-1, "a"), api.Node{Parent: 0, Text: "x", Attrs: []api.Attr{attr("b", "1")}})
	wantWrong(t, elem(-1, "a"), api.Node{Parent: 0, Text: "x", Attrs: []api.Attr{{}}})
	// No Attrs are no Attrs, whether nil or an empty list.
	wantRight(t, elem(-1, "a"), api.Node{Parent: 0, Text: "x", Attrs: []api.Attr{}})
	wantRight(t, api.Node{Parent: -1, Name: "a", Attrs: []api.Attr{}})
}

func TestManyAttrs(t *testing.T) {
	const n = 200_000
	var many []api.Attr
	for i := range n {
		many = append(many, attr("n"+strconv.Itoa(i), ""))
	}
	wantRight(t, elem(-1, "a", many...))
	many[n-1].Name = "n0"
	wantWrong(t, elem(-1, "a", many...))
}

func TestTexts(t *testing.T) {
	wantWrong(t, elem(-1, "a"), words(0, ""))
	wantWrong(t, elem(-1, "a"), words(0, "x"), words(0, "y"))
	wantWrong(t, elem(-1, "a"), elem(0, "b"), words(0, "x"), words(0, "x"))
	wantWrong(t, elem(-1, "a"), elem(0, "b"), words(1, "x"), words(1, "y"))
	wantRight(t, elem(-1, "a"), elem(0, "b"), words(1, "x"), words(0, "x"))
	wantRight(t, elem(-1, "a"), words(0, "x"), elem(0, "b"), words(0, "y"))
	wantRight(t, elem(-1, "a"), words(0, "x"), elem(0, "b"), words(2, "y"), words(0, "z"))
	wantRight(t, elem(-1, "a"), words(0, strings.Repeat("x", 300_000)))
	for _, n := range list(api.Node{Parent: -1, Name: "a", Text: "x"}, api.Node{Parent: -1, Name: "a", Text: " "}) {
		wantWrong(t, n)
		wantWrong(t, n, words(0, "x"))
		n.Parent = 0
		wantWrong(t, elem(-1, "a"), n)
	}
}

func TestBytes(t *testing.T) {
	for c := range 256 {
		s := string([]byte{byte(c)})
		want := wantWrong
		if c == 9 || c == 10 || c == 13 || c >= 32 {
			want = wantRight
		}
		for _, s := range []string{s, "x" + s, s + "x"} {
			want(t, elem(-1, "a"), words(0, s))
			want(t, elem(-1, "a", attr("b", s)))
			want(t, elem(-1, "a"), elem(0, "c", attr("d", ""), attr("b", s)))
		}
	}
}

// deep is n elements, one within the other.
func deep(n int) []api.Node {
	var l []api.Node
	for i := range n {
		l = append(l, elem(i-1, "a"))
	}
	return l
}

func TestDepth(t *testing.T) {
	wantRight(t, deep(api.MaxDepth)...)
	wantWrong(t, deep(api.MaxDepth+1)...)
	wantWrong(t, deep(api.MaxNodes)...)
	full := deep(api.MaxDepth)
	wantRight(t, append(slices.Clone(full), words(api.MaxDepth-1, "x"))...)
	wantRight(t, append(slices.Clone(full), elem(api.MaxDepth-2, "b"), words(api.MaxDepth, "x"), elem(api.MaxDepth-2, "b"))...)
	wantWrong(t, append(slices.Clone(full), elem(api.MaxDepth-2, "b"), elem(api.MaxDepth, "c"))...)
	wantWrong(t, append(slices.Clone(full), words(api.MaxDepth-1, "x"), elem(api.MaxDepth-1, "b"))...)
	wantWrite(t, strings.Repeat("<a>", api.MaxDepth)+"x"+strings.Repeat("</a>", api.MaxDepth-1)+"y</a>",
		append(slices.Clone(full), words(api.MaxDepth-1, "x"), words(0, "y"))...)
	wantWrite(t, strings.Repeat("<a>", api.MaxDepth-1)+"<a/>"+strings.Repeat("</a>", api.MaxDepth-1), full...)
}

// many is n nodes: a root, and under it at each place what next tells.
func many(n int, next func(i int) api.Node) []api.Node {
	l := list(elem(-1, "a"))
	for len(l) < n {
		l = append(l, next(len(l)))
	}
	return l
}

func TestNodes(t *testing.T) {
	elements := func(i int) api.Node { return elem(0, "b") }
	mixed := func(i int) api.Node {
		if i%2 == 0 {
			return elem(0, "b")
		}
		return words(0, "x")
	}
	for _, next := range []func(i int) api.Node{elements, mixed} {
		wantRight(t, many(api.MaxNodes, next)...)
		wantWrong(t, many(api.MaxNodes+1, next)...)
		wantWrong(t, many(100*api.MaxNodes, next)...)
	}
	wantWrite(t, "<a>"+strings.Repeat("<b/>", api.MaxNodes-1)+"</a>", many(api.MaxNodes, elements)...)
	wantWrite(t, "<a>"+strings.Repeat("x<b/>", api.MaxNodes/2-1)+"x</a>", many(api.MaxNodes, mixed)...)
}

// A file may be longer than one that is read.
func TestWriteTooLongToBeParsed(t *testing.T) {
	for _, long := range []int{api.MaxText - len("<a></a>"), api.MaxText - len("<a></a>") + 1, 1_000_000} {
		l := list(elem(-1, "a"), words(0, strings.Repeat("x", long)))
		s, e := Write(l)
		if e != api.OK || s != "<a>"+l[1].Text+"</a>" {
			t.Errorf("P4.2: Write of a text of %d bytes: %d bytes, error %d", long, len(s), e)
		}
		want := api.OK
		if len(s) > api.MaxText {
			want = api.ErrBig
		}
		if got, e := element.Parse(s); e != want || e == api.OK && !same(got, l) {
			t.Errorf("What follows: a file of %d bytes is parsed with error %d; want %d", len(s), e, want)
		}
	}
}

// draft is what would be written of l, right or not: from the inside of each element out, by all that name it as their parent.
func draft(l []api.Node, i int) string {
	n := l[i]
	if n.Name == "" {
		return Escape(n.Text)
	}
	s := "<" + n.Name
	for _, a := range n.Attrs {
		s += " " + a.Name + `="` + Escape(a.Value) + `"`
	}
	kids := element.Kids(l, i)
	if len(kids) == 0 {
		return s + "/>"
	}
	s += ">"
	for _, k := range kids {
		s += draft(l, k)
	}
	return s + "</" + n.Name + ">"
}

// parsedAsItIs tells Right otherwise: a list may be what Tree tells, if it is what is parsed from its draft.
func parsedAsItIs(l []api.Node) (string, bool) {
	for i, n := range l {
		if n.Parent >= i {
			return "", false
		}
	}
	if len(l) == 0 {
		return "", false
	}
	s := draft(l, 0)
	got, e := element.Parse(s)
	return s, e == api.OK && same(got, l)
}

func holdAgainstDraft(t *testing.T, l []api.Node) {
	t.Helper()
	want, right := parsedAsItIs(l)
	if !right {
		want = ""
	}
	if got := Right(l); got != right {
		t.Fatalf("P4.1: Right(%+v): %v; want %v", l, got, right)
	}
	if s, e := Write(l); s != want || (e == api.OK) != right || !right && e != api.ErrTree {
		t.Fatalf("P4.2: Write(%+v): %q, error %d; want %q", l, s, e, want)
	}
}

func TestAllShortLists(t *testing.T) {
	nodes := list(elem(0, "a"), words(0, "x"), words(0, ""), elem(0, "b", attr("c", "<")))
	var all func(l []api.Node, more int)
	all = func(l []api.Node, more int) {
		holdAgainstDraft(t, l)
		if more == 0 {
			return
		}
		for parent := -1; parent <= len(l); parent++ {
			for _, n := range nodes {
				n.Parent = parent
				all(append(l[:len(l):len(l)], n), more-1)
			}
		}
	}
	all(nil, 4)
	all(list(elem(-1, "a"), elem(0, "b")), 3)
	all(list(elem(-1, "a"), elem(0, "b"), elem(1, "c"), words(2, "x")), 2)
}

func TestAllShapes(t *testing.T) {
	var all func(l []api.Node, more int)
	all = func(l []api.Node, more int) {
		holdAgainstDraft(t, l)
		if more == 0 {
			return
		}
		for parent := range len(l) {
			all(append(l[:len(l):len(l)], elem(parent, "a")), more-1)
			all(append(l[:len(l):len(l)], words(parent, "x")), more-1)
		}
	}
	all(list(elem(-1, "a")), 5)
}

func TestWhatIsParsedIsRight(t *testing.T) {
	pieces := []string{"<a>", "</a>", "<b c='&lt;&#127;\"'/>", "x", " ", "&amp;", "&#13;", "<![CDATA[<]]>", "<!---->"}
	var all func(s string, more int)
	all = func(s string, more int) {
		if l, e := element.Parse(s); e == api.OK {
			holdAgainstDraft(t, l)
			if !Right(l) {
				t.Fatalf("P4.1: %q is parsed as %+v, which is not Right", s, l)
			}
		}
		if more > 0 {
			for _, p := range pieces {
				all(s+p, more-1)
			}
		}
	}
	all("", 5)
	all("<a>x", 5)
}

func TestNodesAreNotChanged(t *testing.T) {
	given := func() []api.Node {
		attrs := []api.Attr{attr("x", "<"), attr("y", "2"), attr("z", "3")}
		return list(elem(-1, "a", attrs[:2]...), words(0, "&"), elem(0, "b", attrs[1:1]...), words(2, "x"), elem(9, "behind", attrs...))
	}
	l := given()
	for range 2 {
		s, e := Write(l[:4])
		if !Right(l[:4]) || e != api.OK || s != `<a x="&lt;" y="2">&amp;<b>x</b></a>` {
			t.Errorf("R3: Write: %q, error %d", s, e)
		}
	}
	if !same(l, given()) || !slices.Equal(l[2].Attrs[:2], given()[2].Attrs[:2]) {
		t.Errorf("R3: what was given is changed: %+v", l)
	}
}
