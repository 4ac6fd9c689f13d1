package pom

import (
	"slices"

	"newel/api"
)

func (t tree) project(i int) (api.Pom, api.Errno) {
	var p api.Pom
	e := t.part(i,
		t.leaf("groupId", &p.Group),
		t.leaf("artifactId", &p.Name),
		t.leaf("version", &p.Version),
		t.leaf("packaging", &p.Packaging),
		one("parent", &p.Parent, t.parent),
		one("properties", &p.Props, t.properties),
		one("dependencyManagement", &p.Managed, t.management),
		one("dependencies", &p.Deps, t.dependencies),
	)
	return whole(p, e, p.Name)
}

func (t tree) parent(i int) (api.Coord, api.Errno) {
	var c api.Coord
	e := t.part(i,
		t.leaf("groupId", &c.Group),
		t.leaf("artifactId", &c.Name),
		t.leaf("version", &c.Version),
	)
	return whole(c, e, c.Group, c.Name, c.Version)
}

// properties reads a part in which each element counts, whatever its name.
func (t tree) properties(i int) ([]api.Prop, api.Errno) {
	var l []api.Prop
	e := t.each(i, func(k int) api.Errno {
		name := t[k].Name
		if slices.ContainsFunc(l, func(p api.Prop) bool { return p.Name == name }) {
			return api.ErrTwice
		}
		if len(l) == api.MaxProps {
			return api.ErrBig
		}
		v, e := t.value(k)
		l = append(l, api.Prop{Name: name, Value: v})
		return e
	})
	return whole(l, e)
}

func (t tree) management(i int) ([]api.Dep, api.Errno) {
	var l []api.Dep
	e := t.part(i, one("dependencies", &l, t.dependencies))
	return whole(l, e)
}

func (t tree) dependencies(i int) ([]api.Dep, api.Errno) {
	return list(t, i, "dependency", api.MaxDeps, t.dependency)
}

func (t tree) dependency(i int) (api.Dep, api.Errno) {
	var d api.Dep
	e := t.part(i,
		t.leaf("groupId", &d.Group),
		t.leaf("artifactId", &d.Name),
		t.leaf("version", &d.Version),
		t.leaf("type", &d.Type),
		t.leaf("classifier", &d.Classifier),
		t.leaf("scope", &d.Scope),
		one("optional", &d.Optional, t.optional),
		one("exclusions", &d.Excluded, t.exclusions),
	)
	return whole(d, e, d.Group, d.Name)
}

func (t tree) optional(i int) (bool, api.Errno) {
	v, e := t.value(i)
	if e != api.OK {
		return false, e
	}
	switch v {
	case "true":
		return true, api.OK
	case "false", "":
		return false, api.OK
	}
	return false, api.ErrField
}

func (t tree) exclusions(i int) ([]api.Excluded, api.Errno) {
	return list(t, i, "exclusion", api.MaxExcluded, t.exclusion)
}

func (t tree) exclusion(i int) (api.Excluded, api.Errno) {
	var x api.Excluded
	e := t.part(i,
		t.leaf("groupId", &x.Group),
		t.leaf("artifactId", &x.Name),
	)
	return whole(x, e, x.Group, x.Name)
}
