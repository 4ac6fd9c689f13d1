package element

import (
	"reflect"
	"slices"
	"strings"
	"testing"

	"newel/api"
)

func open(name string, attrs ...api.Attr) api.Token {
	return api.Token{Kind: api.Open, Name: name, Attrs: attrs}
}

func empty(name string, attrs ...api.Attr) api.Token {
	return api.Token{Kind: api.Open, Name: name, Attrs: attrs, Empty: true}
}

func end(name string) api.Token       { return api.Token{Kind: api.Close, Name: name} }
func text(s string) api.Token         { return api.Token{Kind: api.Text, Text: s} }
func comment(s string) api.Token      { return api.Token{Kind: api.Comment, Text: s} }
func prolog(s string) api.Token       { return api.Token{Kind: api.Prolog, Text: s} }
func list(l ...api.Token) []api.Token { return l }

func elem(parent int, name string, attrs ...api.Attr) api.Node {
	return api.Node{Parent: parent, Name: name, Attrs: attrs}
}

func words(parent int, s string) api.Node { return api.Node{Parent: parent, Text: s} }

func wantTree(t *testing.T, l []api.Token, want ...api.Node) {
	t.Helper()
	if got, e := Tree(l); e != api.OK || !reflect.DeepEqual(got, want) {
		t.Errorf("P3.1: Tree(%.200v): %+v, error %d; want %+v", l, got, e, want)
	}
}

func wantNoTree(t *testing.T, want api.Errno, l ...api.Token) {
	t.Helper()
	if got, e := Tree(l); e != want || got != nil {
		t.Errorf("P3.1: Tree of %d tokens: %d nodes, error %d; want error %d", len(l), len(got), e, want)
	}
}

func TestTreeOrdinary(t *testing.T) {
	wantTree(t, list(open("a"), text("x"), end("a")), elem(-1, "a"), words(0, "x"))
	wantTree(t, list(empty("a")), elem(-1, "a"))
	wantTree(t, list(open("a"), end("a")), elem(-1, "a"))
	wantTree(t, list(open("a"), open("b"), text("x"), open("c"), end("c"), end("b"), empty("d"), text("y"), end("a")),
		elem(-1, "a"), elem(0, "b"), words(1, "x"), elem(1, "c"), elem(0, "d"), words(0, "y"))
	wantTree(t, list(open("a"), open("a"), end("a"), text("x"), end("a")), elem(-1, "a"), elem(0, "a"), words(0, "x"))
}

func TestTreeAttrs(t *testing.T) {
	x, y := api.Attr{Name: "x", Value: "1"}, api.Attr{Name: "y", Value: ""}
	wantTree(t, list(open("a", x, y), empty("b", y), open("c"), end("c"), end("a")),
		elem(-1, "a", x, y), elem(0, "b", y), elem(0, "c"))
}

func TestTreeTakesOnlyWhatAKindHas(t *testing.T) {
	more := api.Token{Name: "n", Text: "t", Attrs: []api.Attr{{Name: "x", Value: "1"}}, Empty: true}
	a, c, p, x, z := more, more, more, more, more
	a.Kind, a.Name, a.Empty = api.Open, "a", false
	c.Kind, p.Kind, x.Kind = api.Comment, api.Prolog, api.Text
	z.Kind, z.Name = api.Close, "a"
	wantTree(t, list(c, p, a, c, p, x, z), elem(-1, "a", more.Attrs...), words(0, "t"))
}

func TestTreeTexts(t *testing.T) {
	wantTree(t, list(open("a"), text("x"), text("y"), text("z"), end("a")), elem(-1, "a"), words(0, "xyz"))
	wantTree(t, list(open("a"), text("x"), comment("c"), text("y"), prolog("p"), text("z"), end("a")),
		elem(-1, "a"), words(0, "xyz"))
	wantTree(t, list(open("a"), text("x"), text(""), text("y"), end("a")), elem(-1, "a"), words(0, "xy"))
	wantTree(t, list(open("a"), text(""), end("a")), elem(-1, "a"))
	wantTree(t, list(open("a"), text(""), empty("b"), text(""), end("a")), elem(-1, "a"), elem(0, "b"))
	wantTree(t, list(open("a"), text(" "), empty("b"), text("\n"), end("a")),
		elem(-1, "a"), words(0, " "), elem(0, "b"), words(0, "\n"))
	wantTree(t, list(open("a"), text("x"), open("b"), text("y"), end("b"), text("z"), end("a")),
		elem(-1, "a"), words(0, "x"), elem(0, "b"), words(2, "y"), words(0, "z"))
}

func TestTreeOutsideOfTheRoot(t *testing.T) {
	wantTree(t, list(prolog("p"), text(" \t\r\n"), comment("c"), text(""), empty("a"), text(""), comment("c"), text(" \t\r\n"), prolog("p")),
		elem(-1, "a"))
	for _, s := range []string{"x", " x", "x ", " x ", "\v", "\x00", "\u00a0"} {
		wantNoTree(t, api.ErrTree, text(s), empty("a"))
		wantNoTree(t, api.ErrTree, empty("a"), text(s))
		wantNoTree(t, api.ErrTree, open("a"), end("a"), text(s))
	}
	wantNoTree(t, api.ErrTree, empty("a"), empty("a"))
	wantNoTree(t, api.ErrTree, open("a"), end("a"), open("a"), end("a"))
	wantNoTree(t, api.ErrTree, empty("a"), end("a"))
}

func TestTreeNotWhole(t *testing.T) {
	wantNoTree(t, api.ErrTree)
	wantNoTree(t, api.ErrTree, text(" "), comment("c"), prolog("p"))
	wantNoTree(t, api.ErrTree, open("a"))
	wantNoTree(t, api.ErrTree, open("a"), text("x"))
	wantNoTree(t, api.ErrTree, open("a"), open("b"), end("b"))
}

func TestTreeEnds(t *testing.T) {
	wantNoTree(t, api.ErrTree, end("a"))
	wantNoTree(t, api.ErrTree, end(""))
	wantNoTree(t, api.ErrTree, open("a"), end("A"))
	wantNoTree(t, api.ErrTree, open("a"), end(""), end("a"))
	wantNoTree(t, api.ErrTree, open("a"), end("b"), end("a"))
	wantNoTree(t, api.ErrTree, open("a"), open("b"), end("a"), end("b"))
	wantNoTree(t, api.ErrTree, open("a"), empty("b"), end("b"), end("a"))
	wantNoTree(t, api.ErrTree, open("a"), end("a"), end("a"))
}

func TestTreeNoTokens(t *testing.T) {
	for _, k := range []int{-1, 0, 6, 9, 1 << 40} {
		wantNoTree(t, api.ErrToken, api.Token{Kind: k, Name: "a"})
		wantNoTree(t, api.ErrToken, open("a"), api.Token{Kind: k, Name: "a"}, end("a"))
		wantNoTree(t, api.ErrToken, empty("a"), api.Token{Kind: k})
	}
	wantNoTree(t, api.ErrToken, open(""), end(""))
	wantNoTree(t, api.ErrToken, empty(""))
	wantNoTree(t, api.ErrToken, open("a"), empty(""), end("a"))
}

func TestTreeFirstErrorCounts(t *testing.T) {
	wantNoTree(t, api.ErrToken, empty("a"), open(""))
	wantNoTree(t, api.ErrTree, empty("a"), open("b"), open(""))
	wantNoTree(t, api.ErrToken, open("a"), open(""), end("b"))
	wantNoTree(t, api.ErrTree, open("a"), end("b"), open(""))
	wantNoTree(t, api.ErrTree, text("x"), api.Token{})
	deep := slices.Repeat(list(open("a")), api.MaxDepth)
	wantNoTree(t, api.ErrToken, append(slices.Clone(deep), open(""))...)
	wantNoTree(t, api.ErrDeep, append(slices.Clone(deep), open("a"), api.Token{})...)
	full := append(slices.Clone(deep), slices.Repeat(list(empty("b"), text("x")), api.MaxNodes)...)
	wantNoTree(t, api.ErrDeep, full...)
	full = append(list(open("a")), slices.Repeat(list(empty("b")), api.MaxNodes-1)...)
	wantNoTree(t, api.ErrToken, append(slices.Clone(full), open(""))...)
	wantNoTree(t, api.ErrTree, append(slices.Clone(full), end("a"), open("c"))...)
	wantNoTree(t, api.ErrBig, append(slices.Clone(full), open("c"), api.Token{})...)
	wantNoTree(t, api.ErrBig, append(slices.Clone(full), open("c"))...)
	full = append(slices.Repeat(list(open("a")), api.MaxDepth-1), slices.Repeat(list(empty("b")), api.MaxNodes-api.MaxDepth)...)
	full = append(full, open("c"))
	wantNoTree(t, api.ErrDeep, append(slices.Clone(full), open("d"))...)
	wantNoTree(t, api.ErrBig, append(slices.Clone(full), text("d"))...)
}

func deep(n int, within ...api.Token) []api.Token {
	return slices.Concat(slices.Repeat(list(open("a")), n), within, slices.Repeat(list(end("a")), n))
}

func TestTreeDepth(t *testing.T) {
	l, e := Tree(deep(api.MaxDepth, text("x")))
	if e != api.OK || len(l) != api.MaxDepth+1 || l[api.MaxDepth].Parent != api.MaxDepth-1 {
		t.Errorf("P3.1: as deep as may be: %d nodes, error %d", len(l), e)
	}
	wantNoTree(t, api.ErrDeep, deep(api.MaxDepth+1)...)
	wantNoTree(t, api.ErrDeep, deep(api.MaxDepth, empty("b"))...)
	if _, e := Tree(deep(api.MaxDepth-1, open("b"), end("b"), empty("b"), open("b"), end("b"))); e != api.OK {
		t.Errorf("P3.1: what is closed, or empty, is not open: error %d", e)
	}
}

func TestTreeNodes(t *testing.T) {
	for _, kids := range [][]api.Token{
		slices.Repeat(list(empty("b")), api.MaxNodes-1),
		append(slices.Repeat(list(text("x"), empty("b")), (api.MaxNodes-2)/2), text("x")),
	} {
		full := append(list(open("a")), kids...)
		if l, e := Tree(append(slices.Clone(full), end("a"))); e != api.OK || len(l) != api.MaxNodes {
			t.Errorf("P3.1: as many as may be: %d nodes, error %d", len(l), e)
		}
		if l, e := Tree(append(slices.Clone(full), text(""), comment("c"), end("a"), text(" "))); e != api.OK || len(l) != api.MaxNodes {
			t.Errorf("P3.1: what is passed over is no node: %d nodes, error %d", len(l), e)
		}
		wantNoTree(t, api.ErrBig, append(slices.Clone(full), empty("b"), end("a"))...)
		wantNoTree(t, api.ErrBig, append(slices.Clone(full), empty("b"), text("x"), end("a"))...)
	}
	full := append(list(open("a")), slices.Repeat(list(empty("b")), api.MaxNodes-2)...)
	full = append(full, text("x"), text("y"))
	l, e := Tree(append(slices.Clone(full), end("a")))
	if e != api.OK || len(l) != api.MaxNodes || l[api.MaxNodes-1].Text != "xy" {
		t.Errorf("P3.1: a text that is added makes no node: %d nodes, error %d", len(l), e)
	}
	full = append(list(open("a")), slices.Repeat(list(empty("b")), api.MaxNodes-1)...)
	wantNoTree(t, api.ErrBig, append(full, text("x"), end("a"))...)
}

func TestTreeLongText(t *testing.T) {
	const n = 300_000
	l := slices.Concat(list(open("a")), slices.Repeat(list(text("xy")), n), list(end("a")))
	wantTree(t, l, elem(-1, "a"), words(0, strings.Repeat("xy", n)))
}

// grow is Tree told otherwise: from the inside of each element out, with no memory of what is open but the stack of calls.
func grow(l []api.Token) ([]api.Node, api.Errno) {
	var nodes []api.Node
	var within func(i, parent int) (int, api.Errno)
	within = func(i, parent int) (int, api.Errno) {
		last := -1
		for ; i < len(l); i++ {
			switch t := l[i]; {
			case t.Kind == api.Comment || t.Kind == api.Prolog:
			case t.Kind == api.Text && parent < 0:
				if strings.Trim(t.Text, "\t\n\r ") != "" {
					return 0, api.ErrTree
				}
			case t.Kind == api.Text && t.Text == "":
			case t.Kind == api.Text && last >= 0:
				nodes[last].Text += t.Text
			case t.Kind == api.Text:
				last = len(nodes)
				nodes = append(nodes, words(parent, t.Text))
			case t.Kind == api.Close && parent >= 0 && nodes[parent].Name == t.Name:
				return i, api.OK
			case t.Kind == api.Close:
				return 0, api.ErrTree
			case t.Kind != api.Open || t.Name == "":
				return 0, api.ErrToken
			case parent < 0 && len(nodes) > 0:
				return 0, api.ErrTree
			default:
				last = -1
				nodes = append(nodes, elem(parent, t.Name, t.Attrs...))
				if t.Empty {
					continue
				}
				var e api.Errno
				if i, e = within(i+1, len(nodes)-1); e != api.OK {
					return 0, e
				}
			}
		}
		if parent >= 0 || len(nodes) == 0 {
			return 0, api.ErrTree
		}
		return i, api.OK
	}
	if _, e := within(0, -1); e != api.OK {
		return nil, e
	}
	return nodes, api.OK
}

func TestTreeOfAllShortLists(t *testing.T) {
	kinds := list(open("a"), open("b"), empty("a"), end("a"), end("b"), text("x"), text(" "), text(""), comment("c"), open(""))
	var all func(l []api.Token, more int)
	all = func(l []api.Token, more int) {
		got, e := Tree(l)
		want, f := grow(l)
		if e != f || !reflect.DeepEqual(got, want) {
			t.Fatalf("P3.1: Tree(%+v): %+v, error %d; want %+v, %d", l, got, e, want, f)
		}
		for i, n := range got {
			if n.Parent >= i || n.Parent < 0 != (i == 0) {
				t.Fatalf("What follows: Tree(%+v): %+v: the node %d does not stand behind its parent", l, got, i)
			}
		}
		if more > 0 {
			for _, k := range kinds {
				all(append(l[:len(l):len(l)], k), more-1)
			}
		}
	}
	all(nil, 5)
	all(list(open("a"), open("b"), text("x")), 5)
}

func TestTreeMemory(t *testing.T) {
	given := func() []api.Token {
		attrs := []api.Attr{{Name: "x", Value: "1"}, {Name: "y", Value: "2"}, {Name: "z", Value: "3"}}
		return list(open("a", attrs[:1]...), empty("b", attrs[:2]...), empty("c", attrs[:0]...), text("t"), text("u"), end("a"), empty("behind", attrs...))
	}
	l := given()
	got, e := Tree(l[:6])
	if e != api.OK || !reflect.DeepEqual(l, given()) {
		t.Fatalf("R3: Tree changed what it was given: %+v, error %d", l, e)
	}
	want, _ := Tree(given()[:6])
	l[0].Attrs[0].Value, l[1].Attrs[1].Value, l[0].Name = "no", "no", "no"
	if !reflect.DeepEqual(got, want) {
		t.Errorf("R3: who writes into the tokens changes the tree: %+v", got)
	}
	l = given()
	got, _ = Tree(l[:6])
	for i := range got {
		all := got[i].Attrs[:cap(got[i].Attrs)]
		for k := range all {
			all[k].Value = "no"
		}
		_ = append(got[i].Attrs, api.Attr{Name: "no"})
	}
	if !reflect.DeepEqual(l, given()) {
		t.Errorf("R3: who writes into the tree changes the tokens: %+v", l)
	}
}

func TestParse(t *testing.T) {
	for s, want := range map[string][]api.Node{
		"<a>x</a>": {elem(-1, "a"), words(0, "x")},
		"<?xml?>\n<!-- c -->\n<a>1<!-- c -->2<![CDATA[<3>]]>&amp;<b y='&lt;'/>\n</a>\n<!-- c -->": {
			elem(-1, "a"), words(0, "12<3>&"), elem(0, "b", api.Attr{Name: "y", Value: "<"}), words(0, "\n")},
		"<a/>&#32;<![CDATA[]]><![CDATA[ \n]]>": {elem(-1, "a")},
	} {
		if got, e := Parse(s); e != api.OK || !reflect.DeepEqual(got, want) {
			t.Errorf("P3.1: Parse(%q): %+v, error %d; want %+v", s, got, e, want)
		}
	}
	for s, want := range map[string]api.Errno{
		"": api.ErrTree, "x": api.ErrTree, "<a>": api.ErrTree, "<a></b>": api.ErrTree, "<a/><a/>": api.ErrTree, "<a/>&#33;": api.ErrTree,
		"<a": api.ErrToken, "</b>&": api.ErrToken, "<a></b><": api.ErrToken, "<a>\x00</b>": api.ErrByte, "<\x01": api.ErrByte,
		strings.Repeat(" ", api.MaxText-4) + "<a/>":                    api.OK,
		strings.Repeat(" ", api.MaxText-3) + "<a/>":                    api.ErrBig,
		"\x00" + strings.Repeat(" ", api.MaxText):                      api.ErrBig,
		strings.Repeat("<a>", api.MaxDepth+1):                          api.ErrDeep,
		"<a>" + strings.Repeat("<b/>", api.MaxNodes):                   api.ErrBig,
		"<a>" + strings.Repeat("<b/>", api.MaxNodes) + "</a>" + "<":    api.ErrToken,
		"<a>" + strings.Repeat("x<b/>", api.MaxNodes/2-1) + "y</a>":    api.OK,
		"<a>" + strings.Repeat("x<b/>", api.MaxNodes/2-1) + "y<b/>":    api.ErrBig,
		"<a>" + strings.Repeat("<b/>", api.MaxNodes-1) + "</a><!---->": api.OK,
	} {
		if got, e := Parse(s); e != want || e != api.OK && got != nil {
			t.Errorf("P3.1: Parse(%.40q) of %d bytes: %d nodes, error %d; want error %d", s, len(s), len(got), e, want)
		}
	}
}

func TestKids(t *testing.T) {
	l, _ := Parse("<a>x<b>y<c/>z</b><d/>w</a>")
	for i, want := range [][]int{{1, 2, 6, 7}, nil, {3, 4, 5}, nil, nil, nil, nil, nil} {
		if got := Kids(l, i); !slices.Equal(got, want) {
			t.Errorf("P3.2: Kids of %d: %v; want %v", i, got, want)
		}
	}
	for _, i := range []int{-1 << 63, -2, -1, 8, 9, 1<<63 - 1} {
		if got := Kids(l, i); len(got) > 0 {
			t.Errorf("P3.2: Kids of %d, which is none: %v", i, got)
		}
	}
	if len(Kids(nil, 0)) > 0 || len(Kids(nil, -1)) > 0 {
		t.Error("P3.2: Kids of an empty list")
	}
	odd := []api.Node{elem(1, "a"), elem(1, "b"), elem(7, "c"), elem(-2, "d"), words(1, "x"), elem(0, "e")}
	for i, want := range [][]int{{5}, {0, 1, 4}, nil, nil, nil, nil} {
		if got := Kids(odd, i); !slices.Equal(got, want) {
			t.Errorf("P3.2: Kids of %d of nodes that are no tree: %v; want %v", i, got, want)
		}
	}
	for _, i := range []int{7, -2} {
		if got := Kids(odd, i); len(got) > 0 {
			t.Errorf("P3.2: Kids of %d, which is none though nodes name it: %v", i, got)
		}
	}
}

func TestInner(t *testing.T) {
	l, _ := Parse("<a>x<b>y<c/>z</b><d/>w</a>")
	for i, want := range []string{"xw", "", "yz", "", "", "", "", ""} {
		if got := Inner(l, i); got != want {
			t.Errorf("P3.2: Inner of %d: %q; want %q", i, got, want)
		}
	}
	odd := []api.Node{{Parent: -1, Name: "a", Text: "no"}, {Parent: 0, Name: "b", Text: "no"}, {Parent: 0, Text: "1"}, {Parent: 0}, {Parent: 0, Text: "2"}, {Parent: 1, Text: "3"}, {Parent: -1, Text: "4"}, {Parent: 9, Text: "5"}, {Parent: 2, Text: "6"}}
	for i, want := range []string{"12", "3", "6", "", "", "", "", "", ""} {
		if got := Inner(odd, i); got != want {
			t.Errorf("P3.2: Inner of %d of nodes that are no tree: %q; want %q", i, got, want)
		}
	}
	for _, i := range []int{-1 << 63, -2, -1, 9, 10, 1<<63 - 1} {
		if got := Inner(odd, i); got != "" {
			t.Errorf("P3.2: Inner of %d, which is none: %q", i, got)
		}
	}
	if Inner(nil, 0) != "" || Inner(nil, -1) != "" {
		t.Error("P3.2: Inner of an empty list")
	}
}

func TestNodesAreNotChanged(t *testing.T) {
	given := func() []api.Node { return []api.Node{elem(-1, "a"), words(0, "x"), words(0, "y")} }
	l := given()
	kids := Kids(l[:2], 0)
	_ = append(kids, 9)
	if Inner(l[:2], 0) != "x" || !slices.Equal(kids, []int{1}) || !reflect.DeepEqual(l, given()) {
		t.Errorf("R3: %v of %+v", kids, l)
	}
}
