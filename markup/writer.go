package markup

import (
	"strings"

	"newel/api"
)

// writer writes the nodes of a right tree, one behind the other. open: the innermost element whose end is still to be written.
type writer struct {
	nodes []api.Node
	open  int
	file  strings.Builder
}

// node writes the one at i, and ahead of it the ends of all that it does not stand in.
func (w *writer) node(i int) {
	n := w.nodes[i]
	w.leave(n.Parent)
	if isText(n) {
		w.write(Escape(n.Text))
		return
	}
	w.write("<", n.Name)
	for _, a := range n.Attrs {
		w.write(" ", a.Name, `="`, Escape(a.Value), `"`)
	}
	if !w.hasKids(i) {
		w.write("/>")
		return
	}
	w.write(">")
	w.open = i
}

// leave writes the ends of what is open within the element at i.
func (w *writer) leave(i int) {
again:
	if w.open == i {
		return
	}
	n := w.nodes[w.open]
	w.write("</", n.Name, ">")
	w.open = n.Parent
	goto again
}

// hasKids asks the next node alone: the first kid of an element stands right behind it.
func (w *writer) hasKids(i int) bool {
	return i+1 < len(w.nodes) && w.nodes[i+1].Parent == i
}

func (w *writer) write(pieces ...string) {
	for _, s := range pieces {
		w.file.WriteString(s)
	}
}
