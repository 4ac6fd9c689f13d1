package pom

import (
	"slices"

	"newel/api"
	"newel/chars"
	"newel/element"
)

// tree is the tree of a file, which is right.
type tree []api.Node

// row tells how a part reads its elements of one name: read takes one of them, with all in it.
type row struct {
	name string
	many bool
	read func(i int) api.Errno
}

// leaf is the row of a leaf whose value goes to v.
func (t tree) leaf(name string, v *string) row {
	return one(name, v, t.value)
}

// one is the row of an element that may be there once; what get reads of it goes to v.
func one[T any](name string, v *T, get func(i int) (T, api.Errno)) row {
	return row{name: name, read: func(i int) (e api.Errno) {
		*v, e = get(i)
		return e
	}}
}

// list reads a part of which nothing counts but elements of one name: what get reads of each, most of them at most.
func list[T any](t tree, i int, name string, most int, get func(i int) (T, api.Errno)) ([]T, api.Errno) {
	var l []T
	e := t.part(i, row{name: name, many: true, read: func(k int) api.Errno {
		if len(l) == most {
			return api.ErrBig
		}
		v, e := get(k)
		l = append(l, v)
		return e
	}})
	return whole(l, e)
}

// part reads the part at i by its rows; what none of them names is passed over.
func (t tree) part(i int, rows ...row) api.Errno {
	there := make([]bool, len(rows))
	return t.each(i, func(k int) api.Errno {
		r := slices.IndexFunc(rows, func(r row) bool { return r.name == t[k].Name })
		if r < 0 {
			return api.OK
		}
		if there[r] && !rows[r].many {
			return api.ErrTwice
		}
		there[r] = true
		return rows[r].read(k)
	})
}

// each has visit look at each element right under the one at i, up to the first error; behind the last one ErrField counts, if there is a text beside them.
func (t tree) each(i int, visit func(k int) api.Errno) api.Errno {
	kids := element.Kids(t, i)
next:
	if len(kids) == 0 {
		return t.blank(i)
	}
	if k := kids[0]; t[k].Name != "" {
		if e := visit(k); e != api.OK {
			return e
		}
	}
	kids = kids[1:]
	goto next
}

// blank answers ErrField, if a text stands right under the element at i.
func (t tree) blank(i int) api.Errno {
	if chars.Trim(element.Inner(t, i)) != "" {
		return api.ErrField
	}
	return api.OK
}

// value answers the value of the leaf at i.
func (t tree) value(i int) (string, api.Errno) {
	v := chars.Trim(element.Inner(t, i))
	if !t.isLeaf(i) || len(v) > api.MaxField {
		return "", api.ErrField
	}
	return v, api.OK
}

func (t tree) isLeaf(i int) bool {
	return !slices.ContainsFunc(element.Kids(t, i), func(k int) bool { return t[k].Name != "" })
}

// whole answers v, or the error that was met in reading it, or ErrField, if one of the fields that it must have is empty: one that is missing is, too.
func whole[T any](v T, e api.Errno, fields ...string) (T, api.Errno) {
	if e == api.OK && slices.Contains(fields, "") {
		e = api.ErrField
	}
	if e != api.OK {
		var none T
		return none, e
	}
	return v, api.OK
}
