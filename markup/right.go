package markup

import (
	"newel/api"
	"newel/chars"
)

// mayBe tells whether n may be a node, wherever it stands.
func mayBe(n api.Node) bool {
	if isText(n) {
		return n.Text != "" && allAllowed(n.Text) && len(n.Attrs) == 0
	}
	return n.Text == "" && chars.Name(n.Name) && attrsMayBe(n.Attrs)
}

func isText(n api.Node) bool {
	return n.Name == ""
}

func attrsMayBe(attrs []api.Attr) bool {
	taken := make(map[string]struct{}, len(attrs))
	for _, a := range attrs {
		_, twice := taken[a.Name]
		if twice || !chars.Name(a.Name) || !allAllowed(a.Value) {
			return false
		}
		taken[a.Name] = struct{}{}
	}
	return true
}

func allAllowed(s string) bool {
	for i := range len(s) {
		if !chars.Allowed(s[i]) {
			return false
		}
	}
	return true
}

// mayStand tells whether the node at i may stand there, behind nodes that may.
func mayStand(l []api.Node, i int) bool {
	n := l[i]
	if i == 0 {
		return n.Parent == none && !isText(n)
	}
	if !within(l, innermost(l, i-1), n.Parent) {
		return false
	}
	if isText(n) {
		// All that could part two texts of one parent stands between them in the list, too.
		return !isText(l[i-1]) || l[i-1].Parent != n.Parent
	}
	return depth(l, i) <= api.MaxDepth
}

// innermost answers the innermost element that is open, or may still be, behind the node at i.
func innermost(l []api.Node, i int) int {
	if isText(l[i]) {
		return l[i].Parent
	}
	return i
}

// within tells whether the element at above is the one at i, or above it.
func within(l []api.Node, i, above int) bool {
again:
	if i == none {
		return false
	}
	if i == above {
		return true
	}
	i = l[i].Parent
	goto again
}

// depth counts the element at i and all above it.
func depth(l []api.Node, i int) int {
	n := 0
again:
	if i == none {
		return n
	}
	n++
	i = l[i].Parent
	goto again
}
