package pom

import (
	"slices"
	"strings"

	"newel/api"
	"newel/chars"
	"newel/element"
)

// A draft tells a project otherwise: in one walk over all nodes, each by the names of all that it stands in.
type draft struct {
	nodes  []api.Node
	open   []int                // the parts that are open, by their places
	paths  map[int]string       // of each part and leaf
	values map[[2]string]string // of each part that is open, by its path, and of each name in it
	counts map[int]int          // of the elements in a part that count
	pom    api.Pom
	left   []api.Excluded // by the dependency that is open
}

// listed are the names that count in a part ("*": any).
func listed(path string) (names string, part bool) {
	switch strings.Replace(path, "dependencyManagement/dependencies", "dependencies", 1) {
	case "project":
		return " groupId artifactId version packaging parent properties dependencyManagement dependencies ", true
	case "project/parent", "project/dependencies/dependency/exclusions/exclusion":
		if strings.HasSuffix(path, "parent") {
			return " groupId artifactId version ", true
		}
		return " groupId artifactId ", true
	case "project/properties":
		return "*", true
	case "project/dependencyManagement":
		return " dependencies ", true
	case "project/dependencies":
		return " dependency ", true
	case "project/dependencies/dependency":
		return " groupId artifactId version type classifier scope optional exclusions ", true
	case "project/dependencies/dependency/exclusions":
		return " exclusion ", true
	}
	return "", false
}

// needed are the names whose values a part must have.
func needed(path string) []string {
	switch path[strings.LastIndex(path, "/")+1:] {
	case "project":
		return []string{"artifactId"}
	case "parent":
		return []string{"groupId", "artifactId", "version"}
	case "dependency", "exclusion":
		return []string{"groupId", "artifactId"}
	}
	return nil
}

// most is the number of elements that a part may have at most.
func most(path string) int {
	switch path[strings.LastIndex(path, "/")+1:] {
	case "properties":
		return api.MaxProps
	case "dependencies":
		return api.MaxDeps
	case "exclusions":
		return api.MaxExcluded
	}
	return api.MaxNodes
}

// tell answers the project of a tree that is right.
func tell(l []api.Node) (api.Pom, api.Errno) {
	if l[0].Name != "project" {
		return api.Pom{}, api.ErrRoot
	}
	d := draft{nodes: l, open: []int{0}, paths: map[int]string{0: "project"}, values: map[[2]string]string{}, counts: map[int]int{}}
	for i := 1; i <= len(l); i++ {
		e := d.shut(i)
		if e == api.OK && i < len(l) {
			e = d.node(i)
		}
		if e != api.OK {
			return api.Pom{}, e
		}
	}
	return d.pom, api.OK
}

// shut closes what the node at i does not stand in.
func (d *draft) shut(i int) api.Errno {
	for len(d.open) > 0 {
		last := d.open[len(d.open)-1]
		if i < len(d.nodes) && last <= d.nodes[i].Parent {
			return api.OK
		}
		if e := d.behind(last); e != api.OK {
			return e
		}
		d.open = d.open[:len(d.open)-1]
	}
	return api.OK
}

func (d *draft) node(i int) api.Errno {
	n := d.nodes[i]
	above := d.paths[n.Parent]
	names, part := listed(above)
	if n.Name == "" || !part || names != "*" && !strings.Contains(names, " "+n.Name+" ") {
		return api.OK
	}
	key := [2]string{above, n.Name}
	many := n.Name == "dependency" || n.Name == "exclusion"
	if _, there := d.values[key]; there && (!many || names == "*") {
		return api.ErrTwice
	}
	d.counts[n.Parent]++
	if d.counts[n.Parent] > most(above) {
		return api.ErrBig
	}
	d.values[key] = ""
	path := above + "/" + n.Name
	if _, part := listed(path); part {
		d.paths[i] = path
		d.open = append(d.open, i)
		return api.OK
	}
	return d.leaf(i, key)
}

func (d *draft) leaf(i int, key [2]string) api.Errno {
	for _, n := range d.nodes {
		if n.Parent == i && n.Name != "" {
			return api.ErrField
		}
	}
	v := strings.Trim(element.Inner(d.nodes, i), " \t\r\n")
	if len(v) > api.MaxField || key[1] == "optional" && key[0] != "project/properties" && !slices.Contains([]string{"", "true", "false"}, v) {
		return api.ErrField
	}
	d.values[key] = v
	if key[0] == "project/properties" {
		d.pom.Props = append(d.pom.Props, api.Prop{Name: key[1], Value: v})
	}
	return api.OK
}

// behind is what is asked for behind the part at i, and what becomes of it.
func (d *draft) behind(i int) api.Errno {
	path := d.paths[i]
	for c := range strings.SplitSeq(element.Inner(d.nodes, i), "") {
		if !chars.Space(c[0]) {
			return api.ErrField
		}
	}
	for _, name := range needed(path) {
		if d.values[[2]string{path, name}] == "" {
			return api.ErrField
		}
	}
	d.keep(path)
	for key := range d.values {
		if key[0] == path {
			delete(d.values, key)
		}
	}
	return api.OK
}

func (d *draft) keep(path string) {
	v := func(name string) string { return d.values[[2]string{path, name}] }
	switch path[strings.LastIndex(path, "/")+1:] {
	case "project":
		d.pom.Group, d.pom.Name, d.pom.Version, d.pom.Packaging = v("groupId"), v("artifactId"), v("version"), v("packaging")
	case "parent":
		d.pom.Parent = api.Coord{Group: v("groupId"), Name: v("artifactId"), Version: v("version")}
	case "exclusion":
		d.left = append(d.left, api.Excluded{Group: v("groupId"), Name: v("artifactId")})
	case "dependency":
		dep := api.Dep{Group: v("groupId"), Name: v("artifactId"), Version: v("version"), Type: v("type"), Classifier: v("classifier"), Scope: v("scope"), Optional: v("optional") == "true", Excluded: d.left}
		d.left = nil
		if strings.HasPrefix(path, "project/dependencyManagement/") {
			d.pom.Managed = append(d.pom.Managed, dep)
		} else {
			d.pom.Deps = append(d.pom.Deps, dep)
		}
	}
}
