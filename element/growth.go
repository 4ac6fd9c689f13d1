package element

import (
	"strings"

	"newel/api"
	"newel/chars"
)

// growth is a tree that is not whole yet.
type growth struct {
	nodes []api.Node
	open  []int // the places of the open elements, the innermost one last
	// run is the text of the last node, as long as more may be added to it; it is put together once only, for a text may come in very many tokens.
	run strings.Builder
}

// token lets the tree grow by t.
func (g *growth) token(t api.Token) api.Errno {
	switch t.Kind {
	case api.Comment, api.Prolog:
		return api.OK
	case api.Open:
		return g.opening(t)
	case api.Close:
		return g.closing(t.Name)
	case api.Text:
		return g.text(t.Text)
	}
	return api.ErrToken
}

func (g *growth) opening(t api.Token) api.Errno {
	switch {
	case t.Name == "":
		return api.ErrToken
	case g.outside() && len(g.nodes) > 0:
		return api.ErrTree
	case len(g.open) >= api.MaxDepth:
		return api.ErrDeep
	}
	g.settle()
	place := len(g.nodes)
	if e := g.add(api.Node{Name: t.Name, Attrs: append([]api.Attr(nil), t.Attrs...)}); e != api.OK {
		return e
	}
	if !t.Empty {
		g.open = append(g.open, place)
	}
	return api.OK
}

func (g *growth) closing(name string) api.Errno {
	if g.outside() || g.nodes[g.innermost()].Name != name {
		return api.ErrTree
	}
	g.settle()
	g.open = g.open[:len(g.open)-1]
	return api.OK
}

func (g *growth) text(s string) api.Errno {
	if g.outside() {
		if chars.Trim(s) != "" {
			return api.ErrTree
		}
		return api.OK
	}
	if s == "" {
		return api.OK
	}
	if g.run.Len() == 0 {
		if e := g.add(api.Node{}); e != api.OK {
			return e
		}
	}
	g.run.WriteString(s)
	return api.OK
}

// end answers the whole tree. No text is left to settle then: it was within an element, whose end has settled it.
func (g *growth) end() ([]api.Node, api.Errno) {
	if len(g.nodes) == 0 || !g.outside() {
		return nil, api.ErrTree
	}
	return g.nodes, api.OK
}

// add puts n under the innermost open element.
func (g *growth) add(n api.Node) api.Errno {
	if len(g.nodes) >= api.MaxNodes {
		return api.ErrBig
	}
	n.Parent = g.innermost()
	g.nodes = append(g.nodes, n)
	return api.OK
}

// settle gives the last node its text, if it is a text: what comes next is no part of it.
func (g *growth) settle() {
	if g.run.Len() > 0 {
		g.nodes[len(g.nodes)-1].Text = g.run.String()
		g.run.Reset()
	}
}

func (g *growth) outside() bool { return len(g.open) == 0 }

// innermost answers the place of the innermost open element, or -1.
func (g *growth) innermost() int {
	if g.outside() {
		return -1
	}
	return g.open[len(g.open)-1]
}
