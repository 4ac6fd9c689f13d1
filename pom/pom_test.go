package pom

import (
	"fmt"
	"slices"
	"strings"
	"sync"
	"testing"

	"newel/api"
	"newel/element"
	"newel/markup"
)

const (
	aName     = "<artifactId>a</artifactId>"
	aDep      = "<groupId>g</groupId><artifactId>d</artifactId>"
	anExcl    = "<groupId>x</groupId><artifactId>y</artifactId>"
	aParent   = "<groupId>p</groupId><artifactId>q</artifactId><version>1</version>"
	tooLong   = api.MaxField + 1
	otherText = "any text"
)

func in(name, inner string) string { return "<" + name + ">" + inner + "</" + name + ">" }

func project(inner string) string { return in("project", inner) }

// named is a project that has its name, and inner behind it.
func named(inner string) string { return project(aName + inner) }

func deps(inner string) string    { return in("dependencies", inner) }
func managed(inner string) string { return in("dependencyManagement", deps(inner)) }
func dep(inner string) string     { return in("dependency", aDep+inner) }
func excl(inner string) string    { return in("exclusions", inner) }
func props(inner string) string   { return in("properties", inner) }

func same(a, b api.Pom) bool {
	return a.Parent == b.Parent && a.Group == b.Group && a.Name == b.Name && a.Version == b.Version && a.Packaging == b.Packaging &&
		slices.Equal(a.Props, b.Props) && sameDeps(a.Managed, b.Managed) && sameDeps(a.Deps, b.Deps)
}

func sameDeps(a, b []api.Dep) bool {
	return slices.EqualFunc(a, b, func(x, y api.Dep) bool {
		return x.Group == y.Group && x.Name == y.Name && x.Version == y.Version && x.Type == y.Type && x.Classifier == y.Classifier &&
			x.Scope == y.Scope && x.Optional == y.Optional && slices.Equal(x.Excluded, y.Excluded)
	})
}

// isZero tells whether a project is none at all: its lists are nil, too.
func isZero(p api.Pom) bool {
	return same(p, api.Pom{}) && p.Props == nil && p.Managed == nil && p.Deps == nil
}

// wantParse asks for the project of the file s, and of its tree.
func wantParse(t *testing.T, s string, want api.Pom) {
	t.Helper()
	if p, e := Parse(s); e != api.OK || !same(p, want) {
		t.Errorf("P11.1: Parse(%.300q): %+v, error %d; want %+v", s, p, e, want)
	}
	l, _ := element.Parse(s)
	if p, e := Read(l); e != api.OK || !same(p, want) {
		t.Errorf("P11.1: Read of the tree of %.300q: %+v, error %d; want %+v", s, p, e, want)
	}
}

// wantError asks for an error of the file s, and of its tree, and for nothing beside it.
func wantError(t *testing.T, s string, want api.Errno) {
	t.Helper()
	if p, e := Parse(s); e != want || !isZero(p) {
		t.Errorf("P11.1: Parse(%.300q): %+v, error %d; want error %d", s, p, e, want)
	}
	l, e := element.Parse(s)
	if e != api.OK {
		return
	}
	if p, e := Read(l); e != want || !isZero(p) {
		t.Errorf("P11.1: Read of the tree of %.300q: %+v, error %d; want error %d", s, p, e, want)
	}
}

// wantReadError asks for an error of the tree l, and for nothing beside it.
func wantReadError(t *testing.T, l []api.Node, want api.Errno) {
	t.Helper()
	if p, e := Read(l); e != want || !isZero(p) {
		t.Errorf("P11.1: Read of %d nodes (%+v ..): %+v, error %d; want error %d", len(l), l[:min(len(l), 9)], p, e, want)
	}
}

// wantDraft asks for what a draft tells of the file s.
func wantDraft(t *testing.T, s string) {
	t.Helper()
	l, e := element.Parse(s)
	if e != api.OK {
		t.Fatalf("%.300q is no file: error %d", s, e)
	}
	want, e := tell(l)
	if e != api.OK {
		wantError(t, s, e)
		return
	}
	wantParse(t, s, want)
}

// TestExample holds the chapter's example.
func TestExample(t *testing.T) {
	wantParse(t, "<project><artifactId>a</artifactId></project>", api.Pom{Name: "a"})
}

func TestAll(t *testing.T) {
	one := api.Dep{Group: "g", Name: "d", Version: "[1,2)", Type: "war", Classifier: "c", Scope: "test", Optional: true, Excluded: []api.Excluded{{Group: "x", Name: "y"}, {Group: "*", Name: "*"}}}
	want := api.Pom{
		Parent: api.Coord{Group: "p", Name: "q", Version: "1"},
		Group:  "com.g", Name: "a", Version: "1.0-SNAPSHOT", Packaging: "pom",
		Props:   []api.Prop{{Name: "z", Value: "1"}, {Name: "b.c", Value: "${z}"}, {Name: "empty"}},
		Managed: []api.Dep{{Group: "m", Name: "n", Scope: "import", Type: "pom"}, {Group: "m", Name: "n"}},
		Deps:    []api.Dep{one, {Group: "g", Name: "d"}, {Group: "h", Name: "e"}},
	}
	oneText := dep("<version>[1,2)</version><type>war</type><classifier>c</classifier><scope>test</scope><optional>true</optional>" +
		excl(in("exclusion", anExcl)+in("exclusion", "<groupId>*</groupId><artifactId>*</artifactId>")))
	pieces := []string{
		"<groupId>com.g</groupId>", aName, "<version>1.0-SNAPSHOT</version>", "<packaging>pom</packaging>",
		in("parent", aParent), props("<z>1</z><b.c>${z}</b.c><empty/>"),
		managed("<dependency><groupId>m</groupId><artifactId>n</artifactId><scope>import</scope><type>pom</type></dependency>" + "<dependency><groupId>m</groupId><artifactId>n</artifactId></dependency>"),
		deps(oneText + dep("") + "<dependency><artifactId>e</artifactId><groupId>h</groupId></dependency>"),
	}
	wantParse(t, project(strings.Join(pieces, "")), want)
	wantParse(t, "<?xml version='1.0'?>\n<!-- a -->\n"+project("\n"+strings.Join(pieces, "\r\n\t ")+"\n")+"\n", want)
	// In whatever order the project's pieces come, it is the same.
	for range pieces {
		pieces = append(pieces[1:], pieces[0])
		wantParse(t, project(strings.Join(pieces, " ")), want)
		back := slices.Clone(pieces)
		slices.Reverse(back)
		wantParse(t, project(strings.Join(back, "<x/>")), want)
	}
}

// place is somewhere in a project: around puts what stands there into it.
type place struct {
	name   string
	around func(inner string) string
}

// parts are all places where a part's elements stand; what it must have is there.
func parts() []place {
	l := []place{
		{"project", named},
		{"parent", func(s string) string { return named(in("parent", aParent+s)) }},
		{"properties", func(s string) string { return named(props(s)) }},
		{"dependencyManagement", func(s string) string { return named(in("dependencyManagement", s)) }},
	}
	for _, list := range []func(string) string{deps, managed} {
		l = append(l,
			place{"dependencies", func(s string) string { return named(list(s)) }},
			place{"dependency", func(s string) string { return named(list(dep(s))) }},
			place{"exclusions", func(s string) string { return named(list(dep(excl(s)))) }},
			place{"exclusion", func(s string) string { return named(list(dep(excl(in("exclusion", anExcl+s))))) }},
		)
	}
	return l
}

// leaf is a leaf that may stand somewhere; get is the field where its value goes.
type leaf struct {
	name   string
	around func(text string) string
	get    func(p api.Pom) string
	must   bool // it may not be empty
}

func leaves() []leaf {
	l := []leaf{
		{"groupId", func(s string) string { return named(in("groupId", s)) }, func(p api.Pom) string { return p.Group }, false},
		{"artifactId", func(s string) string { return project(in("artifactId", s)) }, func(p api.Pom) string { return p.Name }, true},
		{"version", func(s string) string { return named(in("version", s)) }, func(p api.Pom) string { return p.Version }, false},
		{"packaging", func(s string) string { return named(in("packaging", s)) }, func(p api.Pom) string { return p.Packaging }, false},
		{"parent groupId", func(s string) string {
			return named(in("parent", in("groupId", s)+"<artifactId>q</artifactId><version>1</version>"))
		}, func(p api.Pom) string { return p.Parent.Group }, true},
		{"parent artifactId", func(s string) string {
			return named(in("parent", "<groupId>p</groupId>"+in("artifactId", s)+"<version>1</version>"))
		}, func(p api.Pom) string { return p.Parent.Name }, true},
		{"parent version", func(s string) string {
			return named(in("parent", "<groupId>p</groupId><artifactId>q</artifactId>"+in("version", s)))
		}, func(p api.Pom) string { return p.Parent.Version }, true},
		{"property", func(s string) string { return named(props("<a>1</a>" + in("b", s) + "<c>3</c>")) }, func(p api.Pom) string { return p.Props[1].Value }, false},
	}
	l = append(l, depLeaves(deps, func(p api.Pom) api.Dep { return p.Deps[1] })...)
	return append(l, depLeaves(managed, func(p api.Pom) api.Dep { return p.Managed[1] })...)
}

// depLeaves are these of a list's second dependency.
func depLeaves(list func(string) string, of func(p api.Pom) api.Dep) []leaf {
	around := func(s string) string { return named(list(dep("") + in("dependency", s) + dep(""))) }
	within := func(s string) string {
		return around(aDep + excl(in("exclusion", anExcl)+in("exclusion", s)+in("exclusion", anExcl)))
	}
	return []leaf{
		{"dependency groupId", func(s string) string { return around(in("groupId", s) + "<artifactId>d</artifactId>") }, func(p api.Pom) string { return of(p).Group }, true},
		{"dependency artifactId", func(s string) string { return around(in("artifactId", s) + "<groupId>g</groupId>") }, func(p api.Pom) string { return of(p).Name }, true},
		{"dependency version", func(s string) string { return around(aDep + in("version", s)) }, func(p api.Pom) string { return of(p).Version }, false},
		{"dependency type", func(s string) string { return around(aDep + in("type", s)) }, func(p api.Pom) string { return of(p).Type }, false},
		{"dependency classifier", func(s string) string { return around(in("classifier", s) + aDep) }, func(p api.Pom) string { return of(p).Classifier }, false},
		{"dependency scope", func(s string) string { return around(in("scope", s) + aDep) }, func(p api.Pom) string { return of(p).Scope }, false},
		{"exclusion groupId", func(s string) string { return within(in("groupId", s) + "<artifactId>y</artifactId>") }, func(p api.Pom) string { return of(p).Excluded[1].Group }, true},
		{"exclusion artifactId", func(s string) string { return within(in("artifactId", s) + "<groupId>x</groupId>") }, func(p api.Pom) string { return of(p).Excluded[1].Name }, true},
	}
}

func wantLeaf(t *testing.T, f leaf, text, want string) {
	t.Helper()
	s := f.around(text)
	if f.must && want == "" {
		wantError(t, s, api.ErrField)
		return
	}
	p, e := Parse(s)
	if e != api.OK || f.get(p) != want {
		t.Errorf("P11.1: %s of %.100q: %.100v, error %d; want %.100q", f.name, text, p, e, want)
	}
	wantDraft(t, s)
}

func TestLeaves(t *testing.T) {
	for _, f := range leaves() {
		for _, r := range [][2]string{
			{"v", "v"}, {"", ""}, {" ", ""}, {"\t\r\n ", ""}, {" v ", "v"}, {"\n\tv\r\n", "v"}, {"v w", "v w"}, {" v \n w ", "v \n w"},
			{"<!-- c -->", ""}, {"v<!-- c -->w", "vw"}, {" <!-- c --> v <!-- d --> ", "v"}, {"v <!-- c --> w", "v  w"},
			{"<![CDATA[<v>]]>", "<v>"}, {"<![CDATA[ v ]]>", "v"}, {"<![CDATA[]]>", ""}, {"&lt;&amp;&#x20;", "<&"}, {"&#32;v&#9;", "v"},
			{"\u00a0v\u00a0", "\u00a0v\u00a0"}, {"\xff", "\xff"}, {"${v}", "${v}"}, {"[1,2)", "[1,2)"}, {"*", "*"}, {"a:b", "a:b"}, {"true", "true"},
		} {
			wantLeaf(t, f, r[0], r[1])
		}
	}
}

func TestLongLeaves(t *testing.T) {
	full := strings.Repeat("v", api.MaxField)
	for _, f := range leaves() {
		wantLeaf(t, f, full, full)
		// Bytes count, not characters, and Spaces about them don't.
		wantLeaf(t, f, strings.Repeat(" ", api.MaxField)+full+"\n", full)
		wantLeaf(t, f, full[2:]+"\u00e4", full[2:]+"\u00e4")
		wantLeaf(t, f, full[1:]+"&amp;", full[1:]+"&")
		wantLeaf(t, f, strings.Repeat(" ", tooLong), "")
		wantLeaf(t, f, full[2:]+" v", full[2:]+" v")
		for _, s := range []string{full + "v", full[1:] + "\u00e4", full + "&amp;", full[1:] + " v", full[:250] + "<!-- c -->" + full[:251], strings.Repeat("v", 10_000)} {
			wantError(t, f.around(s), api.ErrField)
		}
	}
}

func TestNoLeaves(t *testing.T) {
	for _, f := range leaves() {
		for _, s := range []string{"<x/>", "v<x/>", "<x/>v", "<x>v</x>", "<x>v</x>w", " <x/> ", "<groupId>v</groupId>", "<artifactId/>", "<!-- c --><x/>", "v<x/>w"} {
			wantError(t, f.around(s), api.ErrField)
		}
	}
	for _, list := range []func(string) string{deps, managed} {
		for _, s := range []string{"<x/>", "true<x/>", "<x>true</x>", "<optional>true</optional>"} {
			wantError(t, named(list(dep(in("optional", s)))), api.ErrField)
		}
	}
}

func TestOptional(t *testing.T) {
	for _, s := range []string{"true", " true ", "\n\ttrue\r", "tr<!-- c -->ue", "<![CDATA[true]]>", "&#116;rue"} {
		wantParse(t, named(deps(dep(in("optional", s)))), api.Pom{Name: "a", Deps: []api.Dep{{Group: "g", Name: "d", Optional: true}}})
		wantParse(t, named(managed(dep(in("optional", s)))), api.Pom{Name: "a", Managed: []api.Dep{{Group: "g", Name: "d", Optional: true}}})
	}
	for _, s := range []string{"false", "", " ", " false ", "<!-- true -->", "fal<!-- c -->se"} {
		wantParse(t, named(deps(dep(in("optional", s)))), api.Pom{Name: "a", Deps: []api.Dep{{Group: "g", Name: "d"}}})
		wantParse(t, named(managed(dep(in("optional", s)))), api.Pom{Name: "a", Managed: []api.Dep{{Group: "g", Name: "d"}}})
	}
	for _, s := range []string{"yes", "no", "True", "TRUE", "False", "0", "1", "t", "f", "tru", "truee", "true true", "true,false", "tr ue", "${optional}", "null", "-", "\u00a0", strings.Repeat("true", 200)} {
		wantError(t, named(deps(dep(in("optional", s)))), api.ErrField)
		wantError(t, named(managed(dep(in("optional", s)))), api.ErrField)
	}
	// Elsewhere it is a name like others.
	wantParse(t, named("<optional>yes</optional>"+props("<optional>yes</optional>")), api.Pom{Name: "a", Props: []api.Prop{{Name: "optional", Value: "yes"}}})
}

func TestMissing(t *testing.T) {
	wantError(t, project(""), api.ErrField)
	wantError(t, "<project/>", api.ErrField)
	wantError(t, project("<groupId>g</groupId><version>1</version>"+deps(dep(""))), api.ErrField)
	for _, name := range []string{"groupId", "artifactId", "version"} {
		full := "<groupId>p</groupId><artifactId>q</artifactId><version>1</version>"
		i := strings.Index(full, "<"+name)
		n := i + strings.Index(full[i:], "</"+name+">") + len("</"+name+">")
		for _, empty := range []string{"", "<" + name + "/>", in(name, " \n"), in("x", in(name, "v")), in(name+"x", "v"), in(strings.ToUpper(name), "v")} {
			wantError(t, named(in("parent", full[:i]+empty+full[n:])), api.ErrField)
		}
	}
	for _, s := range []string{"", "<groupId>g</groupId>", "<artifactId>a</artifactId>", "<groupId/><artifactId/>", "<groupId>g</groupId><artifactId> </artifactId>", "<groupId/><artifactId>a</artifactId>", "<version>1</version>"} {
		wantError(t, named(deps(in("dependency", s))), api.ErrField)
		wantError(t, named(managed(in("dependency", s))), api.ErrField)
		wantError(t, named(deps(dep("")+in("dependency", s)+dep(""))), api.ErrField)
		wantError(t, named(deps(dep(excl(in("exclusion", s))))), api.ErrField)
		wantError(t, named(managed(dep(excl(in("exclusion", anExcl)+in("exclusion", s))))), api.ErrField)
	}
	wantError(t, named("<parent/>"), api.ErrField)
	wantError(t, named("<parent> </parent>"), api.ErrField)
}

// TestEmptyParts: a part need not have anything in it, but what is asked for behind it.
func TestEmptyParts(t *testing.T) {
	for _, s := range []string{"", " ", "\n\t\r ", "<!-- c -->", "<x/>", "<![CDATA[ ]]>", "<dependency1/>", "<exclusion1/>"} {
		wantParse(t, named(in("dependencyManagement", s)), api.Pom{Name: "a"})
		wantParse(t, named(deps(s)), api.Pom{Name: "a"})
		wantParse(t, named(managed(s)), api.Pom{Name: "a"})
		wantParse(t, named(deps(dep(excl(s)))), api.Pom{Name: "a", Deps: []api.Dep{{Group: "g", Name: "d"}}})
		wantParse(t, named(deps(s+dep("")+s)), api.Pom{Name: "a", Deps: []api.Dep{{Group: "g", Name: "d"}}})
	}
	for _, s := range []string{"", " ", "\n\t\r ", "<!-- c -->", "<![CDATA[ ]]>"} {
		wantParse(t, named(props(s)), api.Pom{Name: "a"})
	}
	// Lists of nothing are nil in each project.
	if p, _ := Parse(named(props("") + deps("") + managed(""))); p.Props != nil || p.Deps != nil || p.Managed != nil {
		t.Errorf("P11.1: the lists of nothing are %#v", p)
	}
}

// TestTextInParts: whatever stands beside a part's elements, but Spaces, is ErrField behind them.
func TestTextInParts(t *testing.T) {
	for _, p := range parts() {
		ahead, _, _ := strings.Cut(p.around("\x01"), "\x01")
		behind := p.around("")[len(ahead):]
		for _, s := range []string{otherText, "x", ".", "\u00a0", "\xff", "&#32;x", "<![CDATA[x]]>", "x<x/>", "<x/>x", "&lt;"} {
			wantError(t, ahead+s+behind, api.ErrField)
		}
		for _, s := range []string{" ", "\t\n\r ", "&#32;&#10;", "<![CDATA[ ]]>", "<!-- x -->"} {
			wantDraft(t, ahead+s+behind)
			if _, e := Parse(ahead + s + behind); e != api.OK {
				t.Errorf("P11.1: Spaces in %s: error %d", p.name, e)
			}
		}
	}
	// A text at each place among elements that are right.
	const all = "<parent>" + aParent + "</parent>" + aName + "<properties><b>1</b></properties><dependencies><dependency>" + aDep + "</dependency></dependencies>"
	for i := range all {
		if all[i] == '<' {
			wantDraft(t, project(all[:i]+"x"+all[i:]))
			wantDraft(t, project(all[:i]+" "+all[i:]))
		}
	}
}

// TestPassedOver: what no list names plays no part, nor does anything in it, nor an attribute.
func TestPassedOver(t *testing.T) {
	long := strings.Repeat("x", 3*api.MaxField)
	others := []string{
		"<x/>", "<x>y</x>", "<x/><x/>", "<x>" + long + "</x>", "<x>y<z/>w</x>", in("x", named("")), "<name>n</name>", "<build><plugins><plugin>" + aDep + "</plugin></plugins></build>",
		in("x", aName+aName), in("x", "<parent/>"), in("x", deps("<dependency/>")), in("x", props("<a/><a/>")), in("project", aName), "<GroupId><x/></GroupId>", "<dependencyX/>", "<groupIds/>", "<x:groupId>g</x:groupId>",
		"<module>x</module>", strings.Repeat("<x>", 12) + strings.Repeat("</x>", 12),
	}
	for _, p := range parts() {
		if p.name == "properties" {
			continue
		}
		want, e := Parse(p.around(""))
		if e != api.OK {
			t.Errorf("P11.1: %s: error %d", p.name, e)
		}
		for _, s := range others {
			wantParse(t, p.around(s), want)
			wantParse(t, p.around("\n"+s+" "+s), want)
		}
	}
	// Each list has its own names.
	for _, p := range parts() {
		for _, name := range strings.Fields("groupId artifactId version packaging parent properties dependencyManagement dependencies dependency type classifier scope optional exclusions exclusion relativePath") {
			for _, inner := range []string{"", "v", "<x/>", aDep, "true"} {
				wantDraft(t, p.around(in(name, inner)))
				wantDraft(t, p.around(in(name, inner)+in(name, inner)))
			}
		}
	}
}

func TestAttributes(t *testing.T) {
	s := project(in("parent", aParent) + aName + props("<b>1</b>") + deps(dep("<optional>true</optional>"+excl(in("exclusion", anExcl)))) + managed(dep("")))
	want, e := Parse(s)
	if e != api.OK {
		t.Fatalf("P11.1: Parse(%q): error %d", s, e)
	}
	l, _ := element.Parse(s)
	for i := range l {
		if l[i].Name != "" {
			l[i].Attrs = []api.Attr{{Name: "groupId", Value: "z"}, {Name: "combine.children", Value: strings.Repeat("v", tooLong)}, {Name: "optional", Value: "yes"}}
		}
	}
	if p, e := Read(l); e != api.OK || !same(p, want) {
		t.Errorf("P11.1: Read with attributes: %+v, error %d; want %+v", p, e, want)
	}
	wantError(t, "<project artifactId='a'/>", api.ErrField)
	wantParse(t, "<project xmlns='http://x' xmlns:x=\"y\"><artifactId a='1'>a</artifactId></project>", api.Pom{Name: "a"})
}

func TestTwice(t *testing.T) {
	wantError(t, named(aName), api.ErrTwice)
	wantError(t, named("<artifactId/>"), api.ErrTwice)
	wantError(t, project("<artifactId/>"+aName), api.ErrTwice)
	for _, name := range []string{"groupId", "version", "packaging", "properties", "dependencyManagement", "dependencies"} {
		wantError(t, named(in(name, "")+in(name, "")), api.ErrTwice)
		wantError(t, named(in(name, " ")+"<x/>"+in(name, "<x/>y")), api.ErrTwice)
		wantError(t, named(in(name, "")+" "+in(name, "")+in(name, "")), api.ErrTwice)
	}
	wantError(t, named(in("parent", aParent)+in("parent", aParent)), api.ErrTwice)
	wantError(t, named(in("parent", aParent)+"<parent/>"), api.ErrTwice)
	for _, name := range []string{"groupId", "artifactId", "version"} {
		wantError(t, named(in("parent", aParent+in(name, "v"))), api.ErrTwice)
		wantError(t, named(in("parent", in(name, "")+aParent)), api.ErrTwice)
	}
	wantError(t, named(in("dependencyManagement", deps("")+deps(""))), api.ErrTwice)
	wantError(t, named(in("dependencyManagement", deps(dep(""))+"<x/>"+deps(dep("")))), api.ErrTwice)
	for _, list := range []func(string) string{deps, managed} {
		for _, name := range []string{"groupId", "artifactId", "version", "type", "classifier", "scope", "optional", "exclusions"} {
			wantError(t, named(list(dep(in(name, "")+in(name, "")))), api.ErrTwice)
			wantError(t, named(list(dep("")+dep("<"+name+"/><x/>"+in(name, "<x/>")))), api.ErrTwice)
		}
		for _, name := range []string{"groupId", "artifactId"} {
			wantError(t, named(list(dep(excl(in("exclusion", anExcl+in(name, "z")))))), api.ErrTwice)
			wantError(t, named(list(dep(excl(in("exclusion", in(name, "")+anExcl))))), api.ErrTwice)
		}
	}
}

// TestNotTwice: one name in two elements is nothing twice, and many may be alike.
func TestNotTwice(t *testing.T) {
	x := api.Excluded{Group: "x", Name: "y"}
	d := api.Dep{Group: "g", Name: "d", Excluded: []api.Excluded{x, x}}
	text := dep(excl(in("exclusion", anExcl) + in("exclusion", anExcl)))
	wantParse(t, named(deps(text+text)+managed(text+text+text)), api.Pom{Name: "a", Deps: []api.Dep{d, d}, Managed: []api.Dep{d, d, d}})
	wantParse(t, project("<groupId>g</groupId><version>2</version>"+in("parent", aParent)+props("<groupId>z</groupId><version>3</version>")+aName),
		api.Pom{Parent: api.Coord{Group: "p", Name: "q", Version: "1"}, Group: "g", Name: "a", Version: "2", Props: []api.Prop{{Name: "groupId", Value: "z"}, {Name: "version", Value: "3"}}})
}

func TestProperties(t *testing.T) {
	wantParse(t, named(props(" <b>1</b> <B>2</B> <b.c>3</b.c> <_/> <b-> x </b-> <b:c>1</b:c> ")), api.Pom{Name: "a", Props: []api.Prop{{Name: "b", Value: "1"}, {Name: "B", Value: "2"}, {Name: "b.c", Value: "3"}, {Name: "_"}, {Name: "b-", Value: "x"}, {Name: "b:c", Value: "1"}}})
	// No name is one of another list here.
	for _, name := range []string{"properties", "dependencies", "dependency", "dependencyManagement", "parent", "project", "exclusions", "artifactId", "optional"} {
		wantParse(t, named(props(in(name, "v"))), api.Pom{Name: "a", Props: []api.Prop{{Name: name, Value: "v"}}})
		wantParse(t, named(props(in(name, ""))), api.Pom{Name: "a", Props: []api.Prop{{Name: name}}})
		wantError(t, named(props(in(name, "<x/>"))), api.ErrField)
		wantError(t, named(props(in(name, "")+"<z/>"+in(name, ""))), api.ErrTwice)
	}
	// Property by property: of each, twice comes ahead of its value, but behind the value of one that is ahead of it.
	wantError(t, named(props("<b/><b><x/></b>")), api.ErrTwice)
	wantError(t, named(props("<b/><c><x/></c><b/>")), api.ErrField)
	wantError(t, named(props("<c><x/></c><b/><b/>")), api.ErrField)
	wantError(t, named(props("<b/><b/><c><x/></c>")), api.ErrTwice)
	wantError(t, named(props("x<b/><b/>")), api.ErrTwice)
	wantError(t, named(props("x<b/>")), api.ErrField)
}

func repeat(n int, one func(i int) string) string {
	var b strings.Builder
	for i := range n {
		b.WriteString(one(i))
	}
	return b.String()
}

func TestManyProperties(t *testing.T) {
	one := func(i int) string { return fmt.Sprintf("<p%d>%d</p%d>", i, i, i) }
	var want []api.Prop
	for i := range api.MaxProps {
		want = append(want, api.Prop{Name: fmt.Sprint("p", i), Value: fmt.Sprint(i)})
	}
	full := repeat(api.MaxProps, one)
	wantParse(t, named(props(full)), api.Pom{Name: "a", Props: want})
	wantParse(t, named(props(repeat(api.MaxProps-1, one))), api.Pom{Name: "a", Props: want[:api.MaxProps-1]})
	wantError(t, named(props(full+"<q/>")), api.ErrBig)
	wantError(t, named(props(full+"<q/><q/>")), api.ErrBig)
	wantError(t, named(props(full+"<q><x/></q>")), api.ErrBig)
	wantError(t, named(props("x"+full+"<q/>")), api.ErrBig)
	wantError(t, named(props(full+"<p0/>")), api.ErrTwice)
	wantError(t, named(props(full+"<p99/>")), api.ErrTwice)
	wantError(t, named(props(full+"<p99><x/></p99><q/>")), api.ErrTwice)
	wantError(t, named(props(full+"<q/><p0/>")), api.ErrBig)
	wantError(t, named(props(full+"x")), api.ErrField)
	wantError(t, named(props("<q><x/></q>"+full)), api.ErrField)
	wantError(t, named(props(repeat(api.MaxProps-1, one)+"<q><x/></q><r/>")), api.ErrField)
	wantError(t, named(props(repeat(1500, one))), api.ErrBig)
}

// TestManyDeps goes to the limit of each list; what is passed over does not count, nor what stands in another list.
func TestManyDeps(t *testing.T) {
	one := func(i int) string { return dep("") }
	l := slices.Repeat([]api.Dep{{Group: "g", Name: "d"}}, api.MaxDeps)
	full := repeat(api.MaxDeps, one)
	wantParse(t, named(deps(full)), api.Pom{Name: "a", Deps: l})
	wantParse(t, named(managed(full)), api.Pom{Name: "a", Managed: l})
	wantParse(t, named(deps(full+"<x/>")), api.Pom{Name: "a", Deps: l})
	wantParse(t, named(deps(full)+managed(repeat(60, one))), api.Pom{Name: "a", Deps: l, Managed: l[:60]})
	wantParse(t, named(managed(full)+deps(repeat(60, one))), api.Pom{Name: "a", Managed: l, Deps: l[:60]})
	for _, list := range []func(string) string{deps, managed} {
		wantError(t, named(list(full+one(0))), api.ErrBig)
		wantError(t, named(list(full+"<dependency/>")), api.ErrBig)
		wantError(t, named(list(full+"<dependency>x</dependency>")), api.ErrBig)
		wantError(t, named(list(full+"<x/>"+in("dependency", "<groupId/><groupId/>"))), api.ErrBig)
		wantError(t, named(list(full+dep(excl("<exclusion/>")))), api.ErrBig)
		wantError(t, named(list("x"+full+"<dependency/>")), api.ErrBig)
		wantError(t, named(list(full+"<dependency/>")+aName), api.ErrBig)
		wantError(t, named(list(full+"x")), api.ErrField)
		wantError(t, named(list("<dependency/>"+full)), api.ErrField)
		wantError(t, named(list(dep("<type/><type/>")+full)), api.ErrTwice)
		wantError(t, named(aName+list(full+one(0))), api.ErrTwice)
		wantError(t, named(list(repeat(api.MaxDeps-1, one)+"<dependency/>"+one(0))), api.ErrField)
	}
}

func TestManyExcluded(t *testing.T) {
	one := func(i int) string { return in("exclusion", anExcl) }
	l := slices.Repeat([]api.Excluded{{Group: "x", Name: "y"}}, api.MaxExcluded)
	d := []api.Dep{{Group: "g", Name: "d", Excluded: l}}
	full := repeat(api.MaxExcluded, one)
	wantParse(t, named(deps(dep(excl(full)))), api.Pom{Name: "a", Deps: d})
	wantParse(t, named(managed(dep(excl(full)))), api.Pom{Name: "a", Managed: d})
	wantParse(t, named(deps(dep(excl(full))+dep(excl("<x/>"+full+"<x/>")))), api.Pom{Name: "a", Deps: append(d, d...)})
	for _, list := range []func(string) string{deps, managed} {
		wantError(t, named(list(dep(excl(full+one(0))))), api.ErrBig)
		wantError(t, named(list(dep(excl(full+"<exclusion/>")))), api.ErrBig)
		wantError(t, named(list(dep(excl(full+"<exclusion>x</exclusion>")))), api.ErrBig)
		wantError(t, named(list(dep(excl(full+"<x/>"+in("exclusion", "<groupId/><groupId/>"))))), api.ErrBig)
		wantError(t, named(list(dep(excl("x"+full+"<exclusion/>")))), api.ErrBig)
		wantError(t, named(list(dep(excl(full+one(0))+"<version/><version/>"))), api.ErrBig)
		wantError(t, named(list(in("dependency", excl(full+one(0))))), api.ErrBig)
		wantError(t, named(list(dep(excl(full+"x")))), api.ErrField)
		wantError(t, named(list(dep(excl("<exclusion/>"+full)))), api.ErrField)
		wantError(t, named(list(dep(excl(repeat(api.MaxExcluded-1, one)+"<exclusion/>"+one(0))))), api.ErrField)
	}
}

// TestFirstError puts two faults behind each other: the one that is met first counts, whatever the other is.
func TestFirstError(t *testing.T) {
	faults := []struct {
		s    string
		want api.Errno
	}{
		{"<groupId><x/></groupId>", api.ErrField},
		{in("version", strings.Repeat("v", tooLong)), api.ErrField},
		{"<parent/>", api.ErrField},
		{props("<b/><b/>"), api.ErrTwice},
		{deps(dep("<scope/><scope/>")), api.ErrTwice},
		{in("dependencyManagement", deps("")+deps("")), api.ErrTwice},
		{props(repeat(101, func(i int) string { return fmt.Sprintf("<p%d/>", i) })), api.ErrBig},
		{deps(dep(excl(repeat(51, func(i int) string { return in("exclusion", anExcl) })))), api.ErrBig},
		{managed(repeat(201, func(int) string { return dep("") })), api.ErrBig},
		{"<packaging/><packaging/>", api.ErrTwice},
	}
	for _, a := range faults {
		wantError(t, project(a.s), a.want)
		wantError(t, named(a.s), a.want)
		wantError(t, named("x"+a.s+"x"), a.want)
		for _, b := range faults {
			if s := named(a.s + b.s); len(s) <= api.MaxText {
				wantError(t, s, a.want)
			}
		}
	}
	// What is asked for behind the project comes behind all in it.
	wantError(t, project("x"), api.ErrField)
	wantError(t, project("<artifactId/>"+props("<b/><b/>")), api.ErrTwice)
	// What is asked for behind a part comes ahead of what stands behind it.
	wantError(t, named(in("parent", "<groupId/>")+aName), api.ErrField)
	wantError(t, named(in("parent", "x"+aParent)+aName), api.ErrField)
	wantError(t, named(deps("<dependency/>")+aName), api.ErrField)
	wantError(t, named(deps("x"+dep(""))+aName), api.ErrField)
	wantError(t, named(in("parent", "<groupId/><groupId/>")+in("version", "<x/>")), api.ErrTwice)
}

// everyText visits all texts of n parts of the pool at most.
func everyText(pool []string, n int, visit func(string)) {
	var grow func(s string, left int)
	grow = func(s string, left int) {
		visit(s)
		if left == 0 {
			return
		}
		for _, p := range pool {
			grow(s+p, left-1)
		}
	}
	grow("", n)
}

// TestEveryShortProject holds Parse against a draft, over all short rows of elements in each part.
func TestEveryShortProject(t *testing.T) {
	everyText([]string{aName, "<artifactId/>", "<groupId>g</groupId>", "<version><x/></version>", "<packaging/>", in("parent", aParent), "<parent/>", props("<b/>"), props("<b/><b/>"), deps(dep("")), deps("<dependency/>"), managed(dep("")), "<dependencyManagement>x</dependencyManagement>", "<x/>", "x", "\n"}, 4, func(s string) {
		wantDraft(t, project(s))
	})
	everyText([]string{"<groupId>p</groupId>", "<artifactId>q</artifactId>", "<version>1</version>", "<version/>", "<groupId><x/></groupId>", "<x><y/></x>", "x", " "}, 4, func(s string) {
		wantDraft(t, named(in("parent", s)))
	})
	everyText([]string{"<b>1</b>", "<b/>", "<c> 2 </c>", "<d><x/></d>", "<b><x/></b>", "x", " "}, 5, func(s string) {
		wantDraft(t, named(props(s)))
	})
}

func TestEveryShortDependency(t *testing.T) {
	for _, list := range []func(string) string{deps, managed} {
		everyText([]string{"<groupId>g</groupId>", "<artifactId>d</artifactId>", "<groupId/>", "<artifactId><x/></artifactId>", "<optional>true</optional>", "<optional>no</optional>", excl(in("exclusion", anExcl)), "<exclusions/>", excl("<exclusion/>"), "<x><y/>z</x>", "x"}, 4, func(s string) {
			wantDraft(t, named(list(in("dependency", s))))
		})
		everyText([]string{dep(""), dep("<type>t</type>"), "<dependency/>", dep("<scope/><scope/>"), "<x/>", "x", " "}, 4, func(s string) {
			wantDraft(t, named(list(s)))
		})
		everyText([]string{in("exclusion", anExcl), "<exclusion/>", in("exclusion", "<groupId/><groupId/>"), in("exclusion", anExcl+"x"), in("exclusion", anExcl+"<y/>"), "<x/>", "x", " "}, 4, func(s string) {
			wantDraft(t, named(list(dep(excl(s)))))
		})
	}
	everyText([]string{deps(""), deps(dep("")), deps("<dependency/>"), deps("x"), "<dependency/>", dep(""), "<x/>", "x", " "}, 4, func(s string) {
		wantDraft(t, named(in("dependencyManagement", s)))
	})
}

func TestRoot(t *testing.T) {
	for _, name := range []string{"Project", "PROJECT", "projec", "projects", "x", "pom", "x:project", "project:x", "artifactId", "_project"} {
		wantError(t, in(name, aName), api.ErrRoot)
		wantError(t, "<"+name+"/>", api.ErrRoot)
		// It counts ahead of all that stands in it.
		wantError(t, in(name, aName+aName+"x"), api.ErrRoot)
		wantError(t, in(name, named("")), api.ErrRoot)
	}
}

func TestTree(t *testing.T) {
	elem := func(parent int, name string) api.Node { return api.Node{Parent: parent, Name: name} }
	text := func(parent int, s string) api.Node { return api.Node{Parent: parent, Text: s} }
	right := []api.Node{elem(-1, "project"), elem(0, "artifactId"), text(1, "a")}
	if p, e := Read(right); e != api.OK || !same(p, api.Pom{Name: "a"}) {
		t.Errorf("P11.1: Read(%v): %+v, error %d", right, p, e)
	}
	for _, more := range [][]api.Node{
		{elem(-1, "x")}, {elem(3, "x")}, {elem(2, "x")}, {elem(4, "x")}, {elem(-2, "x")}, {elem(0, "1")}, {text(0, "")}, {text(0, "\x00")}, {text(1, "b")}, {text(0, " "), text(0, " ")}, {elem(0, "x"), elem(1, "y")},
		{{Parent: 0, Name: "x", Text: "y"}}, {{Parent: 0, Text: "y", Attrs: []api.Attr{{Name: "z"}}}}, {{Parent: 0, Name: "x", Attrs: []api.Attr{{Name: "z"}, {Name: "z"}}}}, {{Parent: 0, Name: "x", Attrs: []api.Attr{{Name: "z", Value: "\x01"}}}},
	} {
		wantReadError(t, append(slices.Clone(right), more...), api.ErrTree)
		// It counts ahead of the root's name, and of all that stands in it.
		for _, root := range []string{"pom", "", "1"} {
			l := append(slices.Clone(right), more...)
			l[0].Name = root
			wantReadError(t, l, api.ErrTree)
		}
		l := append([]api.Node{right[0], right[1], elem(0, "artifactId")}, more...)
		if !markup.Right(l) {
			wantReadError(t, l, api.ErrTree)
		}
	}
	for _, l := range [][]api.Node{nil, {}, {{}}, {text(-1, "x")}, {elem(0, "project")}, {elem(-2, "project")}, {elem(1, "project"), elem(-1, "project")}, {{Parent: -1, Name: "project", Text: "x"}}} {
		wantReadError(t, l, api.ErrTree)
	}
	many := append(slices.Clone(right), slices.Repeat([]api.Node{elem(0, "x")}, api.MaxNodes-len(right))...)
	if p, e := Read(many); e != api.OK || p.Name != "a" {
		t.Errorf("P11.1: Read of %d nodes: error %d", len(many), e)
	}
	wantReadError(t, append(many, elem(0, "x")), api.ErrTree)
	var deep []api.Node
	for i := range api.MaxDepth + 1 {
		deep = append(deep, elem(i-1, "project"))
	}
	wantReadError(t, deep, api.ErrTree)
	wantReadError(t, deep[:api.MaxDepth], api.ErrField)
}

// TestEveryShortTree: Read answers ErrTree of just those lists of nodes that are not right.
func TestEveryShortTree(t *testing.T) {
	nodes := []api.Node{{Name: "project"}, {Name: "artifactId"}, {Text: "a"}, {Name: "properties"}, {}}
	trees := 0
	var all func(l []api.Node, more int)
	all = func(l []api.Node, more int) {
		want, e := api.Pom{}, api.ErrTree
		if markup.Right(l) {
			want, e = tell(l)
			trees++
		}
		if p, got := Read(l); got != e || !same(p, want) {
			t.Fatalf("P11.1: Read(%+v): %+v, error %d; want %+v, error %d", l, p, got, want, e)
		}
		for parent := -1; more > 0 && parent <= len(l); parent++ {
			for _, n := range nodes {
				n.Parent = parent
				all(append(slices.Clip(l), n), more-1)
			}
		}
	}
	all(nil, 4)
	all([]api.Node{{Parent: -1, Name: "project"}, {Parent: 0, Name: "artifactId"}, {Parent: 1, Text: "a"}}, 3)
	if trees < 500 {
		t.Errorf("P11.1: but %d trees were right", trees)
	}
}

func TestParseErrors(t *testing.T) {
	for s, want := range map[string]api.Errno{
		"": api.ErrTree, " ": api.ErrTree, "x": api.ErrTree, "<project>": api.ErrTree, "</project>": api.ErrTree, "<project></projecT>": api.ErrTree, named("") + named(""): api.ErrTree, named("") + "x": api.ErrTree,
		"<": api.ErrToken, "<project": api.ErrToken, "<project a=1/>": api.ErrToken, "<1/>": api.ErrToken, named("&x;"): api.ErrToken, named("<!-- -- -->"): api.ErrToken, " <?xml?>" + named(""): api.ErrToken, named("<x a='1' a='2'/>"): api.ErrToken,
		"\x00": api.ErrByte, named("\x0b"): api.ErrByte, "<pom>\x1f": api.ErrByte,
		strings.Repeat(" ", api.MaxText) + named("\x00"): api.ErrBig, named(strings.Repeat(" ", api.MaxText)): api.ErrBig,
		named(strings.Repeat("<x/>", api.MaxNodes)):                                       api.ErrBig,
		named(strings.Repeat("<x>", api.MaxDepth) + strings.Repeat("</x>", api.MaxDepth)): api.ErrDeep,
		// The file's own error counts ahead of all that the project has.
		"<pom></x>": api.ErrTree, "<pom>&": api.ErrToken, project("<artifactId/><artifactId/>") + "<": api.ErrToken, named(aName + aName): api.ErrTwice,
	} {
		wantError(t, s, want)
		if _, e := element.Parse(s); e != api.OK && e != want {
			t.Errorf("P3.1: Parse(%.80q): error %d; want %d", s, e, want)
		}
	}
	s := named("")
	wantParse(t, s+strings.Repeat("\n", api.MaxText-len(s)), api.Pom{Name: "a"})
	wantParse(t, named(strings.Repeat("<x/>", api.MaxNodes-3)), api.Pom{Name: "a"})
	wantParse(t, named(strings.Repeat("<x>", api.MaxDepth-1)+strings.Repeat("</x>", api.MaxDepth-1)), api.Pom{Name: "a"})
}

// TestLong: a tree may have longer texts than a file.
func TestLong(t *testing.T) {
	long := strings.Repeat("x", 1_000_000)
	blank := strings.Repeat(" ", len(long))
	l := []api.Node{{Parent: -1, Name: "project", Attrs: []api.Attr{{Name: "a", Value: long}}}, {Parent: 0, Name: "artifactId"}, {Parent: 1, Text: blank + "a" + blank}, {Parent: 0, Text: blank}, {Parent: 0, Name: "name"}, {Parent: 4, Text: long}}
	if p, e := Read(l); e != api.OK || !same(p, api.Pom{Name: "a"}) {
		t.Errorf("P11.1: Read of long texts: %.100v, error %d", p, e)
	}
	for _, i := range []int{2, 3} {
		wrong := slices.Clone(l)
		wrong[i].Text = long
		wantReadError(t, wrong, api.ErrField)
	}
	many := l[:3]
	for len(many) < api.MaxNodes {
		many = append(slices.Clip(many), api.Node{Parent: 0, Text: blank[:1000]}, api.Node{Parent: 0, Name: "x"})
	}
	many = many[:api.MaxNodes]
	if p, e := Read(many); e != api.OK || !same(p, api.Pom{Name: "a"}) {
		t.Errorf("P11.1: Read of %d nodes: %.100v, error %d", len(many), p, e)
	}
}

func TestManyAtATime(t *testing.T) {
	var calls sync.WaitGroup
	for range 8 {
		calls.Go(func() {
			for range 100 {
				wantParse(t, named(props("<b>1</b>")+deps(dep(""))), api.Pom{Name: "a", Props: []api.Prop{{Name: "b", Value: "1"}}, Deps: []api.Dep{{Group: "g", Name: "d"}}})
				wantError(t, named(aName), api.ErrTwice)
			}
		})
	}
	calls.Wait()
}

// TestAnswersAreNew: who writes into what is told changes nothing else (R3).
func TestAnswersAreNew(t *testing.T) {
	text := dep(excl(in("exclusion", anExcl) + in("exclusion", anExcl)))
	s := named(props("<b>1</b><c>2</c>") + deps(text+text) + managed(text+text))
	l, _ := element.Parse(s)
	want, _ := Read(l)
	p, _ := Read(l)
	// Each list has a room of its own, behind its end too.
	_ = append(p.Props, api.Prop{Name: "z"})
	_ = append(p.Deps[0].Excluded, api.Excluded{Group: "z"})
	_ = append(p.Managed, api.Dep{Group: "z"})
	if !same(p, want) {
		t.Errorf("R3: one list of a project reaches into another: %+v; want %+v", p, want)
	}
	p.Props[0].Name, p.Deps[0].Excluded[0].Group, p.Managed[0].Group = "z", "z", "z"
	if p.Deps[1].Excluded[0] != want.Deps[1].Excluded[0] || p.Managed[0].Excluded[0] != want.Managed[0].Excluded[0] || p.Deps[0].Group != want.Deps[0].Group {
		t.Errorf("R3: one list of a project is another one's, too: %+v", p)
	}
	wantParse(t, s, want)
	l[2].Text = "z"
	if want.Name != "a" {
		t.Errorf("R3: the project hangs on its tree: %+v", want)
	}
}

func TestLeavesItsArguments(t *testing.T) {
	s := named(props("<b x='1' y='2'> 1 </b>") + deps(dep("")) + "<x/>")
	given := func() []api.Node {
		l, _ := element.Parse(s)
		return append(l, api.Node{Parent: 7, Text: "behind"})
	}
	l := given()
	for range 2 {
		if p, e := Read(l[: len(l)-1 : len(l)]); e != api.OK || p.Name != "a" {
			t.Errorf("R3: Read: %+v, error %d", p, e)
		}
	}
	for i, n := range given() {
		if n.Parent != l[i].Parent || n.Name != l[i].Name || n.Text != l[i].Text || !slices.Equal(n.Attrs, l[i].Attrs) {
			t.Errorf("R3: the node %d is changed: %+v; it was %+v", i, l[i], n)
		}
	}
}
