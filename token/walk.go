package token

import (
	"strings"

	"newel/api"
	"newel/chars"
)

// walk goes through a text from its beginning; rest is what it has not taken yet.
type walk struct{ rest string }

// token takes the next token; what the text's end cuts off, or what begins like none, is refused.
func (w *walk) token(first bool) (api.Token, bool) {
	switch {
	case w.skip("<!--"):
		return w.comment()
	case w.skip("<![CDATA["):
		text, ok := w.upTo("]]>")
		return kept(api.Token{Kind: api.Text, Text: text}, ok)
	case w.skip("<?"):
		text, ok := w.upTo("?>")
		return kept(api.Token{Kind: api.Prolog, Text: text}, ok && first)
	case w.skip("</"):
		return w.closing()
	case w.skip("<"):
		return w.opening()
	}
	return w.text()
}

func (w *walk) comment() (api.Token, bool) {
	text, ok := w.upTo("-->")
	// A "-" at its end makes "--" with the first byte of the "-->" that ends it.
	ok = ok && !strings.Contains(text+"-", "--")
	return kept(api.Token{Kind: api.Comment, Text: text}, ok)
}

func (w *walk) closing() (api.Token, bool) {
	name := w.name()
	w.spaces()
	ok := name != "" && w.skip(">")
	return kept(api.Token{Kind: api.Close, Name: name}, ok)
}

func (w *walk) opening() (api.Token, bool) {
	name := w.name()
	if name == "" {
		return api.Token{}, false
	}
	t := api.Token{Kind: api.Open, Name: name}
	taken := map[string]struct{}{}
next:
	apart := w.spaces()
	if w.skip(">") {
		return t, true
	}
	if w.skip("/>") {
		t.Empty = true
		return t, true
	}
	a, ok := w.attr()
	_, twice := taken[a.Name]
	if !ok || !apart || twice {
		return api.Token{}, false
	}
	taken[a.Name] = struct{}{}
	t.Attrs = append(t.Attrs, a)
	goto next
}

func (w *walk) attr() (api.Attr, bool) {
	name := w.name()
	w.spaces()
	if name == "" || !w.skip("=") {
		return api.Attr{}, false
	}
	w.spaces()
	value, ok := w.value()
	if !ok {
		return api.Attr{}, false
	}
	return api.Attr{Name: name, Value: value}, true
}

func (w *walk) value() (string, bool) {
	mark := `"`
	if !w.skip(mark) {
		mark = "'"
		if !w.skip(mark) {
			return "", false
		}
	}
	raw, ok := w.upTo(mark)
	if !ok || strings.Contains(raw, "<") {
		return "", false
	}
	value, e := Entities(raw)
	return value, e == api.OK
}

func (w *walk) text() (api.Token, bool) {
	n := strings.IndexByte(w.rest, '<')
	if n < 0 {
		n = len(w.rest)
	}
	text, e := Entities(w.take(n))
	return kept(api.Token{Kind: api.Text, Text: text}, e == api.OK)
}

// kept answers nothing at all in place of a token that may not be.
func kept(t api.Token, ok bool) (api.Token, bool) {
	if !ok {
		return api.Token{}, false
	}
	return t, true
}

// take takes the next n bytes.
func (w *walk) take(n int) string {
	s := w.rest[:n]
	w.rest = w.rest[n:]
	return s
}

// skip takes s, if it is what stands next.
func (w *walk) skip(s string) bool {
	rest, ok := strings.CutPrefix(w.rest, s)
	w.rest = rest
	return ok
}

// upTo takes all up to the next end, and the end too, and answers what is ahead of the end.
func (w *walk) upTo(end string) (string, bool) {
	text, rest, ok := strings.Cut(w.rest, end)
	w.rest = rest
	return text, ok
}

// spaces takes the Spaces that stand next, and tells whether there was one.
func (w *walk) spaces() bool {
	n := 0
again:
	if n < len(w.rest) && chars.Space(w.rest[n]) {
		n++
		goto again
	}
	return w.take(n) != ""
}

// name takes the longest name that stands next, or nothing.
func (w *walk) name() string {
	n := 0
again:
	if n < len(w.rest) && goesOn(n, w.rest[n:n+1]) {
		n++
		goto again
	}
	return w.take(n)
}

// goesOn tells whether c may stand in a name behind n other bytes. Any name may stand in for those n bytes: what may follow does not hang on which they are.
func goesOn(n int, c string) bool {
	if n == 0 {
		return chars.Name(c)
	}
	return chars.Name("_" + c)
}
