package token

import (
	"reflect"
	"strconv"
	"strings"
	"testing"

	"newel/api"
)

func open(name string, attrs ...api.Attr) api.Token {
	return api.Token{Kind: api.Open, Name: name, Attrs: attrs}
}

func empty(name string, attrs ...api.Attr) api.Token {
	return api.Token{Kind: api.Open, Name: name, Attrs: attrs, Empty: true}
}

func end(name string) api.Token       { return api.Token{Kind: api.Close, Name: name} }
func text(s string) api.Token         { return api.Token{Kind: api.Text, Text: s} }
func comment(s string) api.Token      { return api.Token{Kind: api.Comment, Text: s} }
func prolog(s string) api.Token       { return api.Token{Kind: api.Prolog, Text: s} }
func attr(name, v string) api.Attr    { return api.Attr{Name: name, Value: v} }
func list(l ...api.Token) []api.Token { return l }

func wantSplit(t *testing.T, s string, want ...api.Token) {
	t.Helper()
	if got, e := Split(s); e != api.OK || len(got)+len(want) > 0 && !reflect.DeepEqual(got, want) {
		t.Errorf("P2.2: Split(%q): %+v, error %d; want %+v", s, got, e, want)
	}
}

func wantError(t *testing.T, s string, want api.Errno) {
	t.Helper()
	if got, e := Split(s); e != want || got != nil {
		t.Errorf("P2.2: Split(%.40q): %+v, error %d; want error %d", s, got, e, want)
	}
}

func wantNoToken(t *testing.T, l ...string) {
	t.Helper()
	for _, s := range l {
		wantError(t, s, api.ErrToken)
	}
}

func TestSplitOrdinary(t *testing.T) {
	wantSplit(t, "")
	wantSplit(t, "<a>x</a>", open("a"), text("x"), end("a"))
	wantSplit(t, "<?xml version='1.0'?>\n<!-- c --><a b='1'>x<c/>y&amp;z<![CDATA[<d>]]></a>\n",
		prolog("xml version='1.0'"), text("\n"), comment(" c "), open("a", attr("b", "1")), text("x"), empty("c"),
		text("y&z"), text("<d>"), end("a"), text("\n"))
	wantSplit(t, "</b><a>", end("b"), open("a"))
}

func TestSplitComment(t *testing.T) {
	wantSplit(t, "<!---->", comment(""))
	wantSplit(t, "<!-- a - b -->", comment(" a - b "))
	wantSplit(t, "<!---a-->", comment("-a"))
	wantSplit(t, "<!-->-->", comment(">"))
	wantSplit(t, "<!--->-->", comment("->"))
	wantSplit(t, "<!--<a>&x;]]>?>-->", comment("<a>&x;]]>?>"))
	wantSplit(t, "<!--a-->-->", comment("a"), text("-->"))
	wantSplit(t, "x<!--a--><!--b-->", text("x"), comment("a"), comment("b"))
	wantNoToken(t, "<!--", "<!-->", "<!--->", "<!--a", "<!--a--", "<!--a->", "<!--a- ->", "<!----->", "<!--a--->", "<!--a--b-->", "<!----a-->", "<!--a-- >b-->", "<!-a-->", "<!a>", "<!>", "<!", "< !--a-->")
}

func TestSplitData(t *testing.T) {
	wantSplit(t, "<![CDATA[]]>", text(""))
	wantSplit(t, "<![CDATA[ a ]]>", text(" a "))
	wantSplit(t, "<![CDATA[&lt;&<b>]]>", text("&lt;&<b>"))
	wantSplit(t, "<![CDATA[a]]]]>", text("a]]"))
	wantSplit(t, "<![CDATA[a]>]]>", text("a]>"))
	wantSplit(t, "<![CDATA[a]]>]]>", text("a"), text("]]>"))
	wantSplit(t, "<![CDATA[<![CDATA[]]>", text("<![CDATA["))
	wantSplit(t, "a<![CDATA[b]]>c", text("a"), text("b"), text("c"))
	wantNoToken(t, "<![CDATA[", "<![CDATA[a", "<![CDATA[a]]", "<![CDATA[a] ]>", "<![CDATA]]>", "<![CDATA a]]>", "<![cdata[a]]>", "<! [CDATA[a]]>", "<![CDATA[]>")
}

func TestSplitProlog(t *testing.T) {
	wantSplit(t, "<??>", prolog(""))
	wantSplit(t, "<???>", prolog("?"))
	wantSplit(t, "<?a<&>--?>b?>", prolog("a<&>--"), text("b?>"))
	wantNoToken(t, "<?", "<?>", "<?a", "<?a>", "<?a? >", " <?a?>", "\n<??>", "<?a?><?b?>", "<a/><?b?>", "<!----><?b?>", "<![CDATA[]]><?b?>", "x<?b?>")
}

func TestSplitClose(t *testing.T) {
	wantSplit(t, "</a>", end("a"))
	wantSplit(t, "</a \t\r\n>", end("a"))
	wantSplit(t, "</_a-1.b:c_>", end("_a-1.b:c_"))
	wantNoToken(t, "</", "</>", "</ >", "</ a>", "</a", "</a ", "</a b>", "</a b='1'>", "</a/>", "</1>", "</-a>", "</a!>", "< /a>", "</a<b>", "</\u00e4>")
}

func TestSplitOpen(t *testing.T) {
	wantSplit(t, "<a>", open("a"))
	wantSplit(t, "<a \t\r\n>", open("a"))
	wantSplit(t, "<a/>", empty("a"))
	wantSplit(t, "<a \n/>", empty("a"))
	wantSplit(t, "<_:-.9Z>", open("_:-.9Z"))
	wantSplit(t, "<a>>", open("a"), text(">"))
	wantNoToken(t, "<", "<<", "<>", "< a>", "<a", "<a ", "<a/", "<a/ >", "<a //>", "<a / >", "<1>", "<-a>", "<.a>", "<:a>", "<=>", "<a<b>", "<a!>", "<\u00e4>", "<a\u00e4>", "</", "<\"a\">", "x<")
}

func TestSplitAttrs(t *testing.T) {
	wantSplit(t, "<a b='1'>", open("a", attr("b", "1")))
	wantSplit(t, `<a b="1"/>`, empty("a", attr("b", "1")))
	wantSplit(t, "<a\tb\n=\r 'x'\n\n c=''   >", open("a", attr("b", "x"), attr("c", "")))
	wantSplit(t, "<a c='1' b='2' B='3' />", empty("a", attr("c", "1"), attr("b", "2"), attr("B", "3")))
	wantSplit(t, "<a a='1'>", open("a", attr("a", "1")))
	wantSplit(t, `<a b="it's" c='"'>`, open("a", attr("b", "it's"), attr("c", `"`)))
	wantSplit(t, "<a b='&lt;&apos;&#65;' c='>' d='/>' e=' \n'>", open("a", attr("b", "<'A"), attr("c", ">"), attr("d", "/>"), attr("e", " \n")))
	wantSplit(t, "<a x:y-z.1_='1'>", open("a", attr("x:y-z.1_", "1")))
	wantSplit(t, "<a b='1'/><a b='1'/>", empty("a", attr("b", "1")), empty("a", attr("b", "1")))
	wantNoToken(t, "<a b>", "<a b/>", "<a b=>", "<a b=/>", "<a b=1>", "<a b='1>", "<a b='1\">", "<a b=\"1'>", "<a b='<'>", "<a b='a<!---->'>", "<a b='&'>", "<a b='&x;'>", "<a b='&lt'>")
	wantNoToken(t, "<a b='1'c='2'>", "<ab='1'>", "<a 'b'>", "<a =''>", "<a b ''>", "<a b=''''>", "<a 1=''>", "<a -b=''>", "<a b='1' /c=''>", "<a b='1', c='2'>", "<a b='1'", "<a b='1' ", "<a b==''>", "<a/b=''>")
	wantNoToken(t, "<a b='1' b='2'>", "<a b='1' b='1'/>", "<a b='1' c='2' b='3'>", "<a c='' b='' d='' b=''>")
}

func TestSplitText(t *testing.T) {
	wantSplit(t, "x", text("x"))
	wantSplit(t, " \t\r\n", text(" \t\r\n"))
	wantSplit(t, "a>b ]]> --> ?> /> '\" =", text("a>b ]]> --> ?> /> '\" ="))
	wantSplit(t, "&lt;a&gt;", text("<a>"))
	wantSplit(t, "a<b/>c", text("a"), empty("b"), text("c"))
	wantSplit(t, "\u00e4\xff\x7f", text("\u00e4\xff\x7f"))
	wantNoToken(t, "&", "a & b", "a&lt<b/>;", "<a>&x;</a>", "<a/>&", "&am<b/>p;")
}

func TestSplitBig(t *testing.T) {
	full := strings.Repeat("x", api.MaxText)
	wantSplit(t, full, text(full))
	wantError(t, full+"x", api.ErrBig)
	wantError(t, full+"\x00", api.ErrBig)
	wantError(t, full+"<", api.ErrBig)
	wantError(t, full[1:]+"\x00", api.ErrByte)
	wantError(t, full[1:]+"<", api.ErrToken)
	wantError(t, strings.Repeat("<", 3*api.MaxText), api.ErrBig)
}

func TestSplitBytes(t *testing.T) {
	for c := 0; c < 256; c++ {
		s := string([]byte{byte(c)})
		if c > 32 || c == 9 || c == 10 || c == 13 || c == 32 {
			wantSplit(t, "<!--"+s+"a-->", comment(s+"a"))
			continue
		}
		for _, in := range []string{s, "a" + s, "<" + s, s + "<", "<!--" + s + "-->", "<![CDATA[" + s + "]]>", "<?" + s + "?>", "<a b='" + s + "'>", "<a>&" + s} {
			wantError(t, in, api.ErrByte)
		}
	}
}

// Whatever goes wrong ahead of it, a byte that may not be counts first (R5).
func TestSplitErrorsInOrder(t *testing.T) {
	wantError(t, "<1>& </ a>\x1f", api.ErrByte)
	wantError(t, "<1>& </ a>\x20", api.ErrToken)
	wantError(t, "<a/>x<b/><c", api.ErrToken)
}

// Bytes of any other kind do not make a name longer, nor do they stand in for a Space.
func TestSplitNamesByByte(t *testing.T) {
	const more = "-.:0123456789"
	const first = "_ABCDEFGHIJKLMNOPQRSTUVWXYZabcdefghijklmnopqrstuvwxyz"
	for c := 33; c < 256; c++ {
		s := string([]byte{byte(c)})
		if strings.Contains(first, s) {
			wantSplit(t, "<"+s+">", open(s))
			wantSplit(t, "</"+s+">", end(s))
			wantSplit(t, "<a "+s+"=''>", open("a", attr(s, "")))
		} else if s != "/" && s != ">" {
			wantNoToken(t, "<"+s+">", "</"+s+">", "<a "+s+"=''>")
		}
		if strings.Contains(first+more, s) {
			wantSplit(t, "<a"+s+"b>", open("a"+s+"b"))
			wantSplit(t, "</a"+s+">", end("a"+s))
		} else if s != ">" {
			wantNoToken(t, "<a"+s+"b>", "</a"+s+">")
		}
	}
}

// write tells a list of tokens so that it splits into just these again.
func write(l []api.Token) string {
	escape := strings.NewReplacer("&", "&amp;", "<", "&lt;", "'", "&apos;")
	var b strings.Builder
	for _, t := range l {
		switch t.Kind {
		case api.Comment:
			b.WriteString("<!--" + t.Text + "-->")
		case api.Prolog:
			b.WriteString("<?" + t.Text + "?>")
		case api.Close:
			b.WriteString("</" + t.Name + ">")
		case api.Text:
			if strings.Contains(t.Text, "]]>") {
				b.WriteString(escape.Replace(t.Text))
			} else {
				b.WriteString("<![CDATA[" + t.Text + "]]>")
			}
		case api.Open:
			b.WriteString("<" + t.Name)
			for _, a := range t.Attrs {
				b.WriteString(" " + a.Name + "='" + escape.Replace(a.Value) + "'")
			}
			if t.Empty {
				b.WriteString("/")
			}
			b.WriteString(">")
		}
	}
	return b.String()
}

// What follows: what is split is nothing but tokens. All short texts of these pieces are split, or refused.
func TestSplitIsTokens(t *testing.T) {
	pieces := []string{"<", ">", "a", " ", "=", "'", "/", "!--", "-", "-->", "?", "&lt;", "![CDATA[", "]]>", "\""}
	split := 0
	var grow func(s string, n int)
	grow = func(s string, n int) {
		l, e := Split(s)
		if e != api.OK && (e != api.ErrToken || l != nil) {
			t.Fatalf("P2.2: Split(%q): %+v, error %d", s, l, e)
		}
		if e == api.OK {
			split++
			back, f := Split(write(l))
			if f != api.OK || len(back)+len(l) > 0 && !reflect.DeepEqual(back, l) {
				t.Fatalf("What follows: Split(%q): %+v; written as %q, it is %+v, error %d", s, l, write(l), back, f)
			}
		}
		for i := 0; n > 0 && i < len(pieces); i++ {
			grow(s+pieces[i], n-1)
		}
	}
	grow("", 4)
	if split < 1000 {
		t.Errorf("only %d texts were split", split)
	}
}

// Two texts behind each other split as they do each alone, wherever the first ends with a token's end.
func TestSplitJoins(t *testing.T) {
	whole := []string{"<a>", "</a >", "<a b='1' c=\"&lt;\" />", "<!-- x -->", "<![CDATA[x]]>"}
	for _, a := range whole {
		for _, b := range append(whole, "x", "&amp;", " ") {
			l, e := Split(a)
			m, f := Split(b)
			if e != api.OK || f != api.OK {
				t.Fatalf("P2.2: Split(%q), Split(%q): errors %d, %d", a, b, e, f)
			}
			wantSplit(t, a+b, append(list(l...), m...)...)
		}
	}
}

func TestSplitOfMany(t *testing.T) {
	deep := strings.Repeat("<a>", api.MaxText/3)
	if l, e := Split(deep); e != api.OK || len(l) != api.MaxText/3 {
		t.Errorf("P2.2: Split of many: %d tokens, error %d", len(l), e)
	}
	many := open("a")
	var b strings.Builder
	b.WriteString("<a")
	for b.Len() < api.MaxText-20 {
		name := "b" + strconv.Itoa(len(many.Attrs))
		many.Attrs = append(many.Attrs, attr(name, ""))
		b.WriteString(" " + name + "=''")
	}
	wantSplit(t, b.String()+">", many)
	wantNoToken(t, b.String()+" b0=''>")
	wantNoToken(t, strings.Repeat("&", api.MaxText), strings.Repeat("<!--", api.MaxText/4), strings.Repeat("<![CDATA[", api.MaxText/9))
}

// What is answered is new memory (R3): writing into it is not seen by the next call.
func TestSplitIsNew(t *testing.T) {
	const s = "<a b='1'>x</a>"
	l, _ := Split(s)
	l[0].Attrs[0] = attr("z", "9")
	l[1] = comment("y")
	wantSplit(t, s, open("a", attr("b", "1")), text("x"), end("a"))
}
