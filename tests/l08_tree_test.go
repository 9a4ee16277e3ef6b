package tests

import (
	"fmt"
	"math"
	"reflect"
	"slices"
	"strings"
	"testing"

	"loop.example/g00622/impl"
)

const (
	name12 = "twelve-bytes"
	body40 = "/a/link/with/as/many/bytes/as/it/may/be."
)

func at(name string, node int64) impl.Entry {
	return impl.Entry{Name: name, Node: node}
}

func dirNode(up int64, names ...impl.Entry) impl.Node {
	return impl.Node{Kind: impl.KdDir, Owner: 1, Group: 2, Acl: impl.AclOf(0o750), Links: 1, Up: up, Names: names}
}

func fileNode(links int64) impl.Node {
	return impl.Node{Kind: impl.KdFile, Owner: 5, Group: 7, Acl: impl.AclOf(0o640), Links: links}
}

func linkNode(links int64, body string) impl.Node {
	return impl.Node{Kind: impl.KdLink, Owner: 5, Group: 7, Acl: impl.AclOf(0o777), Links: links, Body: body}
}

func sharing(n impl.Node, handed impl.Acl) impl.Node {
	n.Shared, n.Default = true, handed
	return n
}

// wood has directories within directories, several names of a file and of a link, free nodes in between, and a directory
// that is Shared.
func wood() impl.Tree {
	top := dirNode(1, at("a", 2), at("d", 5), at("f", 3), at("l", 4))
	top.Extra, top.Acl = impl.ExSticky, impl.AclOf(0o777)
	file := fileNode(3)
	file.Extra, file.Acl, file.Tick = 7, masked(named(5, 6, 8, 3), named(5, 3, 7, 4), 6), 40
	return impl.Tree{Now: 50, Nodes: []impl.Node{
		top,
		sharing(dirNode(1, at("b", 9), at("f2", 3)), masked(named(5, 6), named(7, 1), 5)),
		file,
		linkNode(2, "../a/b"),
		dirNode(1, at("m", 4), at("z", 7)),
		{},
		dirNode(5),
		{},
		sharing(dirNode(2, at("c", 10), at("x", 3)), impl.Acl{}),
		fileNode(1),
		{},
		{},
	}}
}

// chain has as many directories as there may be, each in the one ahead of it, or in the one behind it but for the first.
func chain(turned bool) impl.Tree {
	order := []int64{1, 2, 3, 4, 5, 6, 7, 8, 9, 10, 11, 12}
	if turned {
		slices.Reverse(order[1:])
	}
	t := impl.Tree{Nodes: make([]impl.Node, impl.MaxNodes)}
	up := int64(1)
	for i, number := range order {
		t.Nodes[number-1] = dirNode(up)
		if i+1 < len(order) {
			t.Nodes[number-1].Names = []impl.Entry{at(name12, order[i+1])}
		}
		up = number
	}
	return t
}

// full has a directory of MaxEntries, all of them names of two nodes, of which one has MaxLinks.
func full() impl.Tree {
	names := []impl.Entry{at("!", 2), at("...", 2), at("..a", 2), at(".a", 2), at(name12, 2), at("~", 3)}
	return impl.Tree{Now: impl.MaxTime, Nodes: []impl.Node{dirNode(1, names...), fileNode(5), linkNode(1, body40)}}
}

func rightTrees() []impl.Tree {
	late := wood()
	late.Now = impl.MaxTime
	for i := range late.Nodes {
		if late.Nodes[i].Kind != impl.KdFree {
			late.Nodes[i].Tick = impl.MaxTime
		}
	}
	ends := impl.Tree{Nodes: []impl.Node{dirNode(1, at("x", 2)), linkNode(1, "/")}}
	ends.Nodes[0].Owner, ends.Nodes[0].Group, ends.Nodes[1].Owner, ends.Nodes[1].Group = 0, 9999, 9999, 0
	hollow := impl.Tree{Nodes: []impl.Node{dirNode(1), {Names: []impl.Entry{}, Acl: impl.Acl{Users: []impl.Named{}}, Default: impl.Acl{Groups: []impl.Named{}}}}}
	return []impl.Tree{impl.TreeNew(1, 2, 0o1777).Tree, impl.TreeNew(0, 9999, 0).Tree, {Nodes: []impl.Node{dirNode(1)}}, wood(), chain(false), chain(true), full(), late, ends, hollow,
		{Nodes: []impl.Node{dirNode(1), {}, {}}}, {Now: 3, Nodes: []impl.Node{dirNode(1, at("p", 3)), dirNode(3), dirNode(1, at("q", 2))}}}
}

func copyOfNode(n impl.Node) impl.Node {
	n.Acl, n.Default = copyOfAcl(n.Acl), copyOfAcl(n.Default)
	n.Names = append([]impl.Entry(nil), n.Names...)
	return n
}

// copyOfTree has memory of its own, and no list where there is an empty one.
func copyOfTree(t impl.Tree) impl.Tree {
	var nodes []impl.Node
	for _, n := range t.Nodes {
		nodes = append(nodes, copyOfNode(n))
	}
	t.Nodes = nodes
	return t
}

func changed(t impl.Tree, change func(*impl.Tree)) impl.Tree {
	out := copyOfTree(t)
	change(&out)
	return out
}

func changedNode(t impl.Tree, number int64, change func(*impl.Node)) impl.Tree {
	return changed(t, func(out *impl.Tree) { change(&out.Nodes[number-1]) })
}

func wantSameTree(t *testing.T, what string, got impl.Tree, want impl.Tree) {
	t.Helper()
	if !reflect.DeepEqual(copyOfTree(got), copyOfTree(want)) {
		t.Errorf("%s: got %+v, want %+v", what, got, want)
	}
}

func ownVisible(text string, most int, without string) bool {
	for _, b := range []byte(text) {
		if b <= ' ' || b >= 127 || strings.IndexByte(without, b) >= 0 {
			return false
		}
	}
	return text != "" && len(text) <= most
}

func ownEntryName(text string) bool {
	return ownVisible(text, 12, "/") && text != "." && text != ".."
}

// ownTreeRight tells anew, apart from the program, whether a tree is right: it goes down from the Node 1, not up.
func ownTreeRight(t impl.Tree) bool {
	last := int64(len(t.Nodes))
	if last < 1 || last > 12 || t.Now < 0 || t.Now > 1000000 || t.Nodes[0].Kind != 1 || t.Nodes[0].Up != 1 {
		return false
	}
	by := map[int64][]int64{1: {1}}
	for i, n := range t.Nodes {
		if !ownNodeRight(n, t.Now) {
			return false
		}
		for _, e := range n.Names {
			if e.Node < 2 || e.Node > last || t.Nodes[e.Node-1].Kind == 0 {
				return false
			}
			by[e.Node] = append(by[e.Node], int64(i)+1)
		}
	}
	below := []int64{1}
	for i := 0; i < len(below); i++ {
		for _, e := range t.Nodes[below[i]-1].Names {
			if t.Nodes[e.Node-1].Kind == 1 && !slices.Contains(below, e.Node) {
				below = append(below, e.Node)
			}
		}
	}
	for i, n := range t.Nodes {
		number := int64(i) + 1
		if n.Kind != 0 && n.Links != int64(len(by[number])) {
			return false
		}
		if n.Kind == 1 && (n.Up != by[number][0] || !slices.Contains(below, number)) {
			return false
		}
	}
	return true
}

// ownNodeRight looks at what can be told of a node by itself.
func ownNodeRight(n impl.Node, now int64) bool {
	names := map[string]int{}
	sorted := slices.IsSortedFunc(n.Names, func(a impl.Entry, b impl.Entry) int { return strings.Compare(a.Name, b.Name) })
	for _, e := range n.Names {
		names[e.Name]++
		if !ownEntryName(e.Name) {
			return false
		}
	}
	none, bare := sameAcl(n.Default, impl.Acl{}), !n.Shared && n.Up == 0 && len(n.Names) == 0
	alike := n.Owner >= 0 && n.Owner <= 9999 && n.Group >= 0 && n.Group <= 9999 && n.Extra >= 0 && n.Extra <= 7 && impl.AclRight(n.Acl) && n.Tick >= 0 && n.Tick <= now && n.Links >= 1
	switch n.Kind {
	case 0:
		return reflect.DeepEqual(copyOfNode(n), impl.Node{})
	case 1:
		return alike && n.Links == 1 && n.Body == "" && (n.Shared || none) && impl.AclRight(n.Default) && sorted && len(names) == len(n.Names) && len(names) <= 6
	case 2:
		return alike && n.Links <= 5 && bare && none && n.Body == ""
	case 3:
		return alike && n.Links <= 5 && bare && none && ownVisible(n.Body, 40, "")
	}
	return false
}

func TestEntryNamesAndBodies(t *testing.T) {
	rows := []struct {
		text string
		name bool
		body bool
	}{
		{"", false, false}, {"a", true, true}, {".", false, true}, {"..", false, true}, {"...", true, true}, {".a", true, true}, {"..a", true, true}, {"a.", true, true}, {"a..", true, true},
		{"/", false, true}, {"a/", false, true}, {"/a", false, true}, {"a/b", false, true}, {"../x", false, true}, {"!", true, true}, {"~", true, true}, {" ", false, false}, {"\x7f", false, false},
		{"\x00", false, false}, {"a b", false, false}, {"a\n", false, false}, {"\u00e4", false, false}, {"\xff", false, false}, {"A_9-*,:", true, true}, {name12, true, true}, {name12 + "x", false, true},
		{strings.Repeat(".", 12), true, true}, {strings.Repeat(".", 13), false, true}, {body40, false, true}, {body40 + "x", false, false}, {strings.Repeat("x", 40), false, true},
		{strings.Repeat("x", 41), false, false}, {strings.Repeat("x", impl.MaxBytes), false, false}, {strings.Repeat("x", impl.MaxBytes+1), false, false},
	}
	for _, r := range rows {
		if name, body := impl.EntryName(r.text), impl.LinkBody(r.text); name != r.name || body != r.body {
			t.Errorf("%.50q: got %v and %v, want %v and %v", r.text, name, body, r.name, r.body)
		}
	}
}

func TestEntryNamesAndBodiesOfEachByteAndLength(t *testing.T) {
	for length := range 45 {
		for b := range 256 {
			for _, place := range []int{0, length / 2, length - 1} {
				text := []byte(strings.Repeat("a", length))
				if length > 0 {
					text[place] = byte(b)
				}
				visible := b >= 33 && b <= 126
				name := length >= 1 && length <= 12 && visible && b != '/' && (length != 1 || b != '.')
				body := length >= 1 && length <= 40 && visible
				if impl.EntryName(string(text)) != name || impl.LinkBody(string(text)) != body {
					t.Fatalf("%q: got %v and %v, want %v and %v", text, impl.EntryName(string(text)), impl.LinkBody(string(text)), name, body)
				}
			}
		}
	}
}

// Promise 15.
func TestEachNodeIsNamedAsOftenAsItHasLinks(t *testing.T) {
	for i, tree := range rightTrees() {
		if !impl.TreeRight(tree) || !ownTreeRight(tree) {
			t.Fatalf("tree %d is right: %+v", i, tree)
		}
		for k, n := range tree.Nodes {
			links := n.Links
			if k == 0 {
				links--
			}
			if got := impl.NamesOf(tree, int64(k)+1); got != links {
				t.Errorf("tree %d, node %d: named by %d, want %d", i, k+1, got, links)
			}
		}
	}
	for n, want := range map[int64]int64{1: 0, 2: 1, 3: 3, 4: 2, 5: 1, 6: 0, 7: 1, 9: 1, 10: 1, 12: 0, 13: 0, 0: 0, -1: 0, math.MinInt64: 0, math.MaxInt64: 0} {
		if got := impl.NamesOf(wood(), n); got != want {
			t.Errorf("NamesOf %d: got %d, want %d", n, got, want)
		}
	}
	if got := impl.NamesOf(full(), 2); got != impl.MaxLinks {
		t.Errorf("NamesOf of one of MaxLinks: got %d", got)
	}
}

// goneTo goes a path name by name from the Node 1, apart from the program; 0 where it leads nowhere.
func goneTo(t impl.Tree, path string) int64 {
	number := int64(1)
	for name := range strings.SplitSeq(strings.TrimPrefix(path, "/"), "/") {
		if path == "/" {
			return number
		}
		next := slices.IndexFunc(t.Nodes[number-1].Names, func(e impl.Entry) bool { return e.Name == name })
		if next < 0 {
			return 0
		}
		number = t.Nodes[number-1].Names[next].Node
	}
	return number
}

// Promise 15.
func TestEachDirectoryIsReachedByItsPath(t *testing.T) {
	for i, tree := range rightTrees() {
		for k, n := range tree.Nodes {
			number := int64(k) + 1
			path := impl.PathOf(tree, number)
			if n.Kind != impl.KdDir && path != "" {
				t.Errorf("tree %d, node %d is no directory, and has the path %q", i, number, path)
			}
			if n.Kind == impl.KdDir && (!strings.HasPrefix(path, "/") || goneTo(tree, path) != number) {
				t.Errorf("tree %d, node %d: %q leads to %d", i, number, path, goneTo(tree, path))
			}
		}
	}
	for n, want := range map[int64]string{1: "/", 2: "/a", 3: "", 4: "", 5: "/d", 6: "", 7: "/d/z", 9: "/a/b", 10: "", 12: "", 13: "", 0: "", -1: "", math.MinInt64: "", math.MaxInt64: ""} {
		if got := impl.PathOf(wood(), n); got != want {
			t.Errorf("PathOf %d: got %q, want %q", n, got, want)
		}
	}
	if got := impl.PathOf(chain(true), 2); got != strings.Repeat("/"+name12, 11) {
		t.Errorf("the longest path: got %q", got)
	}
}

type brokenTree struct {
	what string
	tree impl.Tree
}

// brokenNodes are one step away from wood, each in one node.
func brokenNodes() []brokenTree {
	var out []brokenTree
	put := func(what string, number int64, change func(*impl.Node)) {
		out = append(out, brokenTree{fmt.Sprintf("%s of %d", what, number), changedNode(wood(), number, change)})
	}
	put("no directory at the top", 1, func(n *impl.Node) { n.Kind = impl.KdFile })
	put("nothing at the top", 1, func(n *impl.Node) { *n = impl.Node{} })
	for _, up := range []int64{0, 2, -1, 13, math.MinInt64, math.MaxInt64} {
		put("another Up", 1, func(n *impl.Node) { n.Up = up })
	}
	for _, change := range []func(*impl.Node){
		func(n *impl.Node) { n.Owner = 1 }, func(n *impl.Node) { n.Group = 1 }, func(n *impl.Node) { n.Extra = 1 }, func(n *impl.Node) { n.Acl.Other = 1 }, func(n *impl.Node) { n.Acl.Masked = true },
		func(n *impl.Node) { n.Acl.Users = named(1, 1) }, func(n *impl.Node) { n.Shared = true }, func(n *impl.Node) { n.Default.User = 4 }, func(n *impl.Node) { n.Default.Groups = named(1, 0) },
		func(n *impl.Node) { n.Links = 1 }, func(n *impl.Node) { n.Up = 1 }, func(n *impl.Node) { n.Body = "x" }, func(n *impl.Node) { n.Names = []impl.Entry{at("x", 3)} }, func(n *impl.Node) { n.Tick = 1 },
	} {
		put("a free one that is not zero", 6, change)
	}
	for number := range int64(5) {
		for _, far := range farNumbers {
			put("Kind", number+1, func(n *impl.Node) { n.Kind = far })
			put("Owner", number+1, func(n *impl.Node) { n.Owner = far })
			put("Group", number+1, func(n *impl.Node) { n.Group = far })
			put("Extra", number+1, func(n *impl.Node) { n.Extra = far })
			put("Links", number+1, func(n *impl.Node) { n.Links = far })
			put("Up", number+1, func(n *impl.Node) { n.Up = far })
			put("Tick", number+1, func(n *impl.Node) { n.Tick = far })
		}
		put("a Kind that is none", number+1, func(n *impl.Node) { n.Kind = 4 })
		put("an Extra too great", number+1, func(n *impl.Node) { n.Extra = 8 })
		put("a Tick behind Now", number+1, func(n *impl.Node) { n.Tick = 51 })
		put("Links one more", number+1, func(n *impl.Node) { n.Links++ })
		put("Links one less", number+1, func(n *impl.Node) { n.Links-- })
		for _, a := range wrongAcls() {
			put("an Acl that is not right", number+1, func(n *impl.Node) { n.Acl = a })
		}
	}
	return out
}

// brokenDirectories are one step away from wood in what belongs to directories alone, or to links.
func brokenDirectories() []brokenTree {
	var out []brokenTree
	put := func(what string, number int64, change func(*impl.Node)) {
		out = append(out, brokenTree{fmt.Sprintf("%s of %d", what, number), changedNode(wood(), number, change)})
	}
	for _, a := range wrongAcls() {
		put("a Default that is not right", 2, func(n *impl.Node) { n.Default = a })
	}
	put("a Default that is not Shared", 2, func(n *impl.Node) { n.Shared = false })
	put("a Default that is not Shared", 5, func(n *impl.Node) { n.Default.Other = 1 })
	put("a Default that is not Shared", 5, func(n *impl.Node) { n.Default.Masked = true })
	for _, number := range []int64{3, 4} {
		put("Shared", number, func(n *impl.Node) { n.Shared = true })
		put("Default", number, func(n *impl.Node) { n.Default.User = 1 })
		put("Default", number, func(n *impl.Node) { n.Default = masked(named(1, 1), nil, 1) })
		put("Up", number, func(n *impl.Node) { n.Up = 1 })
		put("Names", number, func(n *impl.Node) { n.Names = []impl.Entry{at("x", 10)} })
	}
	for _, up := range []int64{0, 1, 2, 3, 4, 6, 7, 9, 13} {
		put("Up of another one", 7, func(n *impl.Node) { n.Up = up })
	}
	put("a Body of a directory", 1, func(n *impl.Node) { n.Body = "x" })
	put("a Body of a directory", 7, func(n *impl.Node) { n.Body = "x" })
	put("a Body of a file", 3, func(n *impl.Node) { n.Body = "x" })
	for _, body := range []string{"", " ", "a b", "\x7f", body40 + "x", strings.Repeat("x", impl.MaxBytes+1)} {
		put("a Body of a link", 4, func(n *impl.Node) { n.Body = body })
	}
	put("Names out of order", 1, func(n *impl.Node) { n.Names[0], n.Names[1] = n.Names[1], n.Names[0] })
	put("Names out of order", 5, func(n *impl.Node) { n.Names[0].Name = "zz" })
	put("a Name twice", 5, func(n *impl.Node) { n.Names[0].Name = "z" })
	for _, name := range []string{"", ".", "..", "a/b", "/", "a b", "\x7f", name12 + "x", strings.Repeat("x", impl.MaxBytes+1)} {
		put("a Name that is none", 5, func(n *impl.Node) { n.Names = []impl.Entry{at(name, 4), at("~", 7)} })
	}
	for _, node := range []int64{0, 1, -1, 6, 8, 13, math.MinInt64, math.MaxInt64} {
		put("a Name of nothing", 7, func(n *impl.Node) { n.Names = []impl.Entry{at("x", node)} })
	}
	return out
}

// brokenTogether need more than one change, so that all but one condition still hold.
func brokenTogether() []brokenTree {
	var out []brokenTree
	put := func(what string, change func(*impl.Tree)) {
		out = append(out, brokenTree{what, changed(wood(), change)})
	}
	put("a directory named twice", func(t *impl.Tree) { t.Nodes[4].Names = []impl.Entry{at("m", 4), at("z", 7), at("zz", 7)} })
	put("a directory named twice, with two Links", func(t *impl.Tree) {
		t.Nodes[4].Names, t.Nodes[6].Links = []impl.Entry{at("m", 4), at("z", 7), at("zz", 7)}, 2
	})
	put("a directory named by two, with two Links", func(t *impl.Tree) {
		t.Nodes[0].Names, t.Nodes[6].Links = append(t.Nodes[0].Names, at("z", 7)), 2
	})
	put("directories in a circle", func(t *impl.Tree) { t.Nodes[5], t.Nodes[7] = dirNode(8, at("x", 8)), dirNode(6, at("y", 6)) })
	put("a directory in itself", func(t *impl.Tree) { t.Nodes[5] = dirNode(6, at("x", 6)) })
	put("a directory that nothing names", func(t *impl.Tree) { t.Nodes[5] = dirNode(1) })
	put("a file that nothing names", func(t *impl.Tree) { t.Nodes[5] = fileNode(0) })
	put("the top named, with two Links", func(t *impl.Tree) { t.Nodes[6].Names, t.Nodes[0].Links = []impl.Entry{at("x", 1)}, 2 })
	put("too many Names", func(t *impl.Tree) {
		t.Nodes[6].Names, t.Nodes[9].Links = []impl.Entry{at("1", 10), at("2", 10), at("3", 10), at("4", 3), at("5", 3), at("6", 4), at("7", 4)}, 4
		t.Nodes[2].Links, t.Nodes[3].Links = 5, 4
	})
	put("too many Links", func(t *impl.Tree) {
		t.Nodes[6].Names, t.Nodes[9].Links = []impl.Entry{at("1", 10), at("2", 10), at("3", 10), at("4", 10), at("5", 10)}, 6
	})
	put("Names of a file, counted as Links", func(t *impl.Tree) { t.Nodes[2].Names, t.Nodes[9].Links = []impl.Entry{at("x", 10)}, 2 })
	put("a free one named", func(t *impl.Tree) { t.Nodes[6].Names = []impl.Entry{at("x", 6)} })
	put("no node", func(t *impl.Tree) { t.Nodes = nil })
	put("one node too many", func(t *impl.Tree) { t.Nodes = append(t.Nodes, impl.Node{}) })
	put("very many nodes", func(t *impl.Tree) { t.Nodes = append(t.Nodes, make([]impl.Node, 100000)...) })
	for _, now := range []int64{-1, 39, impl.MaxTime + 1, math.MinInt64, math.MaxInt64} {
		put(fmt.Sprint("Now ", now), func(t *impl.Tree) { t.Now = now })
	}
	many := make([]impl.Entry, 20000)
	for i := range many {
		many[i] = at(fmt.Sprintf("%06d", i), 10)
	}
	put("very many Names", func(t *impl.Tree) { t.Nodes[6].Names = many })
	put("very many named", func(t *impl.Tree) { t.Nodes[6].Acl = masked(make([]impl.Named, 100000), nil, 7) })
	return append(out, brokenTree{"the zero one", impl.Tree{}})
}

func brokenTrees() []brokenTree {
	return slices.Concat(brokenNodes(), brokenDirectories(), brokenTogether())
}

// Promise 15.
func TestTreesThatAreNotRight(t *testing.T) {
	for _, b := range brokenTrees() {
		if impl.TreeRight(b.tree) || ownTreeRight(b.tree) {
			t.Errorf("%s: got %v and %v", b.what, impl.TreeRight(b.tree), ownTreeRight(b.tree))
		}
	}
}

// What is at a limit, or moved as a whole, is right: the conditions ask for no more than they say.
func TestTreesAtTheLimits(t *testing.T) {
	right := map[string]impl.Tree{
		"MaxLinks": changed(wood(), func(t *impl.Tree) {
			t.Nodes[6].Names, t.Nodes[9].Links = []impl.Entry{at("1", 10), at("2", 10), at("3", 10), at("4", 10)}, 5
		}),
		"MaxEntries": changed(wood(), func(t *impl.Tree) {
			t.Nodes[6].Names, t.Nodes[9].Links = []impl.Entry{at("1", 10), at("2", 10), at("3", 10), at("4", 3), at("5", 3), at("6", 4)}, 4
			t.Nodes[2].Links, t.Nodes[3].Links = 5, 3
		}),
		"another Up, moved": changed(wood(), func(t *impl.Tree) {
			t.Nodes[4].Names, t.Nodes[0].Names, t.Nodes[6].Up = t.Nodes[4].Names[:1], append(t.Nodes[0].Names, at("z", 7)), 1
		}),
		"Now as the last Tick": changed(wood(), func(t *impl.Tree) { t.Now = 40 }),
		"Now at its end":       changed(wood(), func(t *impl.Tree) { t.Now = impl.MaxTime }),
		"Tick as Now":          changedNode(wood(), 7, func(n *impl.Node) { n.Tick = 50 }),
		"Extra 7":              changedNode(wood(), 4, func(n *impl.Node) { n.Extra = 7 }),
		"no Default, Shared":   changedNode(wood(), 7, func(n *impl.Node) { n.Shared = true }),
		"a Body of 40":         changedNode(wood(), 4, func(n *impl.Node) { n.Body = body40 }),
		"a Name of 12":         changedNode(wood(), 1, func(n *impl.Node) { n.Names[3].Name = name12 }),
		"capitals ahead":       changedNode(wood(), 5, func(n *impl.Node) { n.Names[0].Name = "Z" }),
		"the shorter ahead":    changedNode(wood(), 5, func(n *impl.Node) { n.Names[0].Name, n.Names[1].Name = "z", "za" }),
	}
	for what, tree := range right {
		if !impl.TreeRight(tree) || !ownTreeRight(tree) {
			t.Errorf("%s: got %v and %v", what, impl.TreeRight(tree), ownTreeRight(tree))
		}
	}
}

var treeNumbers = []int64{math.MinInt64, -1, 0, 1, 2, 3, 4, 5, 6, 7, 8, 9, 12, 13, 9999, 10000, impl.MaxTime, impl.MaxTime + 1, math.MaxInt64}

// nearNodes are all those one step away from a node, in one field.
func nearNodes(n impl.Node) []impl.Node {
	var out []impl.Node
	put := func(change func(*impl.Node)) {
		one := copyOfNode(n)
		change(&one)
		out = append(out, one)
	}
	for _, x := range treeNumbers {
		for _, field := range []func(*impl.Node) *int64{
			func(n *impl.Node) *int64 { return &n.Kind }, func(n *impl.Node) *int64 { return &n.Owner }, func(n *impl.Node) *int64 { return &n.Group }, func(n *impl.Node) *int64 { return &n.Extra },
			func(n *impl.Node) *int64 { return &n.Links }, func(n *impl.Node) *int64 { return &n.Up }, func(n *impl.Node) *int64 { return &n.Tick },
		} {
			put(func(n *impl.Node) { *field(n) = x })
		}
		for i := range n.Names {
			put(func(n *impl.Node) { n.Names[i].Node = x })
		}
		put(func(n *impl.Node) { n.Names = append(n.Names, at("~~", x)) })
	}
	for _, text := range []string{"", "a", ".", "..", "m", "z", "/", " ", name12, name12 + "x", body40, body40 + "x"} {
		put(func(n *impl.Node) { n.Body = text })
		for i := range n.Names {
			put(func(n *impl.Node) { n.Names[i].Name = text })
		}
	}
	for i := range n.Names {
		put(func(n *impl.Node) { n.Names = slices.Delete(n.Names, i, i+1) })
		put(func(n *impl.Node) { n.Names = slices.Insert(n.Names, i, n.Names[i]) })
	}
	for _, a := range []impl.Acl{{}, {User: 7}, {User: 8}, {Mask: 1}, {Masked: true}, masked(named(1, 1), nil, 7), masked(nil, named(2, 1, 1, 1), 7), {Users: named(1, 1)}} {
		put(func(n *impl.Node) { n.Acl = a })
		put(func(n *impl.Node) { n.Default = a })
		put(func(n *impl.Node) { n.Shared, n.Default = !n.Shared, a })
	}
	put(func(n *impl.Node) { n.Shared = !n.Shared })
	put(func(n *impl.Node) { *n = impl.Node{} })
	return out
}

// Promise 15.
func TestTreesOneStepAway(t *testing.T) {
	right := 0
	for _, base := range rightTrees() {
		for i := range base.Nodes {
			for _, n := range nearNodes(base.Nodes[i]) {
				tree := base
				tree.Nodes = slices.Clone(base.Nodes)
				tree.Nodes[i] = n
				if got, want := impl.TreeRight(tree), ownTreeRight(tree); got != want {
					t.Fatalf("got %v, want %v of %+v", got, want, tree)
				} else if got {
					right++
				}
			}
		}
	}
	if right == 0 {
		t.Error("none of them is right: nothing was asked")
	}
}

func TestTreeNew(t *testing.T) {
	for mode := range int64(4096) {
		want := impl.Tree{Nodes: make([]impl.Node, 12)}
		want.Nodes[0] = impl.Node{Kind: 1, Owner: mode, Group: 9999 - mode, Extra: mode / 512, Acl: impl.Acl{User: mode / 64 % 8, Group: mode / 8 % 8, Other: mode % 8}, Links: 1, Up: 1}
		got := impl.TreeNew(mode, 9999-mode, mode)
		wantSameTree(t, fmt.Sprint("TreeNew of ", mode), got.Tree, want)
		if got.Node != 1 || got.Code != impl.OK || !impl.TreeRight(got.Tree) || impl.NodeMode(got.Tree, 1) != mode {
			t.Errorf("TreeNew of %d: got %+v", mode, got)
		}
	}
	for _, far := range append([]int64{4096, 8191}, farNumbers...) {
		calls := []impl.TreeOut{impl.TreeNew(0, 0, far)}
		if far < 0 || far > 9999 {
			calls = append(calls, impl.TreeNew(far, 0, 0), impl.TreeNew(0, far, 0), impl.TreeNew(far, far, far))
		}
		for i, got := range calls {
			if !reflect.DeepEqual(got, impl.TreeOut{Code: impl.ErrForm}) {
				t.Errorf("%d, call %d: got %+v", far, i, got)
			}
		}
	}
	for _, id := range []int64{0, 9999} {
		if got := impl.TreeNew(id, 9999-id, 4095); got.Code != impl.OK || got.Tree.Nodes[0].Owner != id || got.Tree.Nodes[0].Group != 9999-id || got.Tree.Nodes[0].Extra != 7 {
			t.Errorf("TreeNew of %d: got %+v", id, got)
		}
	}
}

func TestNodesOfTrees(t *testing.T) {
	for i, tree := range rightTrees() {
		last := int64(len(tree.Nodes))
		free := int64(0)
		for number := last; number >= 1; number-- {
			n := tree.Nodes[number-1]
			if got := impl.NodeOf(tree, number); !reflect.DeepEqual(copyOfNode(got), copyOfNode(n)) {
				t.Errorf("tree %d, NodeOf %d: got %+v", i, number, got)
			}
			if got, want := impl.NodeMode(tree, number), 512*n.Extra+64*n.Acl.User+8*ownGroupClass(n.Acl)+n.Acl.Other; got != want {
				t.Errorf("tree %d, NodeMode %d: got %d, want %d", i, number, got, want)
			}
			if n.Kind == impl.KdFree {
				free = number
			}
		}
		if got := impl.FirstFree(tree); got != free {
			t.Errorf("tree %d, FirstFree: got %d, want %d", i, got, free)
		}
		for _, number := range []int64{math.MinInt64, -1, 0, last + 1, 13, 1 << 32, 1<<32 + 1, math.MaxInt64} {
			if n := impl.NodeOf(tree, number); !reflect.DeepEqual(n, impl.Node{}) || impl.NodeMode(tree, number) != 0 {
				t.Errorf("tree %d has no node %d: got %+v and %d", i, number, n, impl.NodeMode(tree, number))
			}
		}
	}
	rows := []struct {
		what      string
		got, want int64
	}{
		{"FirstFree of a new one", impl.FirstFree(impl.TreeNew(1, 2, 0).Tree), 2}, {"FirstFree in between", impl.FirstFree(wood()), 6}, {"FirstFree without", impl.FirstFree(chain(false)), 0},
		{"FirstFree at the end", impl.FirstFree(changedNode(chain(false), 11, func(n *impl.Node) { n.Names = nil })), 0},
		{"NodeMode with a mask", impl.NodeMode(wood(), 3), 0o7661}, {"NodeMode at the top", impl.NodeMode(wood(), 1), 0o1777}, {"NodeMode of a free one", impl.NodeMode(wood(), 6), 0},
	}
	for _, r := range rows {
		if r.got != r.want {
			t.Errorf("%s: got %d, want %d", r.what, r.got, r.want)
		}
	}
}

// mayTree has a directory, a file and a link of one list, and a free one.
func mayTree(a impl.Acl) impl.Tree {
	t := impl.Tree{Nodes: []impl.Node{dirNode(1, at("d", 2), at("f", 3), at("l", 4)), dirNode(1), fileNode(1), linkNode(1, "f"), {}}}
	for i := range t.Nodes[:4] {
		t.Nodes[i].Owner, t.Nodes[i].Group, t.Nodes[i].Acl = 1, 2, a
	}
	return t
}

func ownMay(n impl.Node, c impl.Cred, want int64) bool {
	if c.Root {
		runs := (n.Acl.User|ownGroupClass(n.Acl)|n.Acl.Other)%2 == 1
		return n.Kind == impl.KdDir || want%2 == 0 || runs
	}
	_, may := ownClass(n.Acl, n.Owner, n.Group, c, want)
	return may
}

func TestNodeMay(t *testing.T) {
	for _, a := range askedAcls() {
		tree := mayTree(a)
		for _, c := range someCreds() {
			for number := int64(1); number <= 4; number++ {
				for want := range int64(8) {
					if got, may := impl.NodeMay(tree, c, number, want), ownMay(tree.Nodes[number-1], c, want); got != may {
						t.Fatalf("%s of the kind %d, by %s, %d: got %v", aclOwnText(a), tree.Nodes[number-1].Kind, credOwnText(c), want, got)
					}
				}
			}
		}
	}
}

func TestNodeMayByHand(t *testing.T) {
	lists := map[string]impl.Acl{"none": {}, "user": {User: 1}, "group": {Group: 1}, "other": {Other: 1}, "masked": {Group: 1, Masked: true, Mask: 6}, "mask": {Masked: true, Mask: 1},
		"read": {User: 6, Group: 6, Other: 6}, "named": masked(named(5, 7), named(7, 7), 6)}
	root, owner, member, user, group, other := impl.Cred{Uid: 9, Gid: 9, Root: true}, impl.Cred{Uid: 1}, impl.Cred{Uid: 9, Gid: 2}, impl.Cred{Uid: 5}, impl.Cred{Uid: 9, Groups: []int64{7}}, impl.Cred{Uid: 9}
	rows := []struct {
		list   string
		c      impl.Cred
		number int64
		want   int64
		may    bool
	}{
		{"none", root, 2, 7, true}, {"none", root, 3, 6, true}, {"none", root, 3, 1, false}, {"none", root, 3, 7, false}, {"none", root, 4, 1, false}, {"none", root, 4, 6, true}, {"none", root, 3, 0, true},
		{"user", root, 3, 7, true}, {"group", root, 3, 7, true}, {"other", root, 3, 7, true}, {"masked", root, 3, 1, false}, {"masked", root, 3, 6, true}, {"mask", root, 3, 7, true}, {"read", root, 3, 1, false},
		{"read", root, 3, 4, true}, {"named", root, 3, 1, true}, {"none", root, 5, 0, false}, {"none", root, 0, 0, false}, {"none", root, 6, 0, false},
		{"user", owner, 3, 1, true}, {"user", owner, 3, 2, false}, {"user", owner, 2, 1, true}, {"none", owner, 1, 1, false}, {"none", owner, 1, 0, true}, {"group", owner, 3, 1, false}, {"other", owner, 3, 1, false},
		{"group", member, 3, 1, true}, {"masked", member, 3, 1, false}, {"user", member, 3, 1, false}, {"other", member, 4, 1, false}, {"other", other, 4, 1, true}, {"other", other, 2, 1, true}, {"group", other, 2, 1, false},
		{"named", user, 3, 6, true}, {"named", user, 3, 7, false}, {"named", group, 2, 6, true}, {"named", group, 4, 1, false}, {"named", other, 4, 1, true}, {"named", other, 4, 2, false}, {"read", other, 3, 6, true},
	}
	for _, r := range rows {
		if got := impl.NodeMay(mayTree(lists[r.list]), r.c, r.number, r.want); got != r.may {
			t.Errorf("%s, by %s, %d of the node %d: got %v", r.list, credOwnText(r.c), r.want, r.number, got)
		}
	}
}

func TestNodeMayOfWhatIsNotRight(t *testing.T) {
	tree := mayTree(impl.AclOf(0o777))
	for _, c := range []impl.Cred{{Uid: 1}, {Uid: 9}, {Uid: 9, Root: true}} {
		for _, number := range append([]int64{0, 5, 6, 13, 1 << 32}, farNumbers...) {
			if impl.NodeMay(tree, c, number, 0) || impl.NodeMay(tree, c, number, 4) {
				t.Errorf("%s may with the node %d", credOwnText(c), number)
			}
		}
		for _, want := range append([]int64{8, 15, 16}, farNumbers...) {
			if impl.NodeMay(tree, c, 1, want) || impl.NodeMay(tree, c, 3, want) {
				t.Errorf("%s may %d", credOwnText(c), want)
			}
		}
	}
	for i, c := range wrongCreds() {
		for _, root := range []bool{false, true} {
			c.Root = root
			if impl.NodeMay(tree, c, 1, 0) || impl.NodeMay(tree, c, 3, 7) {
				t.Errorf("cred %d is not right, and may", i)
			}
		}
	}
}

// An empty tree, the same with a directory made in it, and again without it: the last one differs from the first in its times alone.
func TestADirectoryMadeByHand(t *testing.T) {
	empty := impl.TreeNew(1, 2, 0o1777).Tree
	made := changed(empty, func(t *impl.Tree) {
		t.Now, t.Nodes[0].Tick, t.Nodes[0].Names = 1, 1, []impl.Entry{at("d", 2)}
		t.Nodes[1] = impl.Node{Kind: impl.KdDir, Owner: 5, Group: 6, Acl: impl.AclOf(0o700), Links: 1, Up: 1, Tick: 1}
	})
	gone := changed(empty, func(t *impl.Tree) { t.Now, t.Nodes[0].Tick = 2, 2 })
	got := []any{impl.TreeRight(empty), impl.NodeMode(empty, 1), impl.FirstFree(empty), impl.FirstFree(made), impl.NamesOf(empty, 1), impl.NamesOf(made, 2), impl.NodeOf(made, 2).Group, impl.PathOf(made, 2), impl.PathOf(made, 3),
		impl.NodeMay(made, impl.Cred{Uid: 7}, 2, 1), impl.NodeMay(made, impl.Cred{Uid: 7, Root: true}, 2, 7), impl.SameTree(empty, made), impl.SameTree(empty, gone)}
	want := []any{true, int64(1023), int64(2), int64(3), int64(0), int64(1), int64(6), "/d", "", false, true, false, true}
	if !reflect.DeepEqual(got, want) {
		t.Errorf("got %v, want %v", got, want)
	}
}

func TestSameTree(t *testing.T) {
	all := rightTrees()
	for i, a := range all {
		for k, b := range all {
			// The eighth is the fourth at another time.
			want := i == k || i == 3 && k == 7 || i == 7 && k == 3
			if got := impl.SameTree(a, b); got != want {
				t.Errorf("trees %d and %d: got %v", i, k, got)
			}
		}
		if !impl.SameTree(a, copyOfTree(a)) {
			t.Errorf("tree %d and its copy differ", i)
		}
	}
}

func TestTreesThatDifferInOneThing(t *testing.T) {
	node := func(number int64, change func(*impl.Node)) impl.Tree { return changedNode(wood(), number, change) }
	others := []impl.Tree{
		node(3, func(n *impl.Node) { n.Owner = 6 }), node(3, func(n *impl.Node) { n.Group = 6 }), node(3, func(n *impl.Node) { n.Extra = 6 }), node(1, func(n *impl.Node) { n.Owner = 0 }),
		node(3, func(n *impl.Node) { n.Acl.User = 7 }), node(3, func(n *impl.Node) { n.Acl.Group = 7 }), node(3, func(n *impl.Node) { n.Acl.Other = 7 }), node(3, func(n *impl.Node) { n.Acl.Mask = 7 }),
		node(3, func(n *impl.Node) { n.Acl.Users[1].Bits = 2 }), node(3, func(n *impl.Node) { n.Acl.Users[0].Id = 4 }), node(3, func(n *impl.Node) { n.Acl.Groups[0].Bits = 2 }), node(3, func(n *impl.Node) { n.Acl.Groups = n.Acl.Groups[:1] }),
		node(10, func(n *impl.Node) { n.Acl.Masked = true }), node(10, func(n *impl.Node) { n.Acl.Other = 1 }), node(5, func(n *impl.Node) { n.Shared = true }), node(9, func(n *impl.Node) { n.Shared = false }),
		node(2, func(n *impl.Node) { n.Default.User = 7 }), node(2, func(n *impl.Node) { n.Default.Group = 7 }), node(2, func(n *impl.Node) { n.Default.Other = 7 }), node(2, func(n *impl.Node) { n.Default.Mask = 7 }),
		node(2, func(n *impl.Node) { n.Default.Users[0].Bits = 2 }), node(2, func(n *impl.Node) { n.Default.Groups[0].Id = 2 }), node(9, func(n *impl.Node) { n.Default.Masked = true }),
		node(4, func(n *impl.Node) { n.Body = "../a/c" }), node(1, func(n *impl.Node) { n.Names[3].Name = "k2" }), node(5, func(n *impl.Node) { n.Names[0].Name = "n" }),
		changed(wood(), func(t *impl.Tree) { t.Nodes[9].Kind, t.Nodes[9].Body = impl.KdLink, "x" }),
		changed(wood(), func(t *impl.Tree) { t.Nodes = t.Nodes[:11] }), changed(wood(), func(t *impl.Tree) { t.Nodes[8].Names[0].Node, t.Nodes[8].Names[1].Node = 3, 10 }),
		changed(wood(), func(t *impl.Tree) { t.Nodes[4].Names, t.Nodes[3].Links = t.Nodes[4].Names[1:], 1 }),
		changed(wood(), func(t *impl.Tree) { t.Nodes[5], t.Nodes[6].Names = fileNode(1), []impl.Entry{at("x", 6)} }),
	}
	for i, other := range others {
		if !impl.TreeRight(other) {
			t.Fatalf("tree %d is right: %+v", i, other)
		}
		if impl.SameTree(wood(), other) || impl.SameTree(other, wood()) {
			t.Errorf("tree %d is another one: %+v", i, other)
		}
	}
	alike := []impl.Tree{changed(wood(), func(t *impl.Tree) { t.Now = 51 }), node(3, func(n *impl.Node) { n.Tick = 41 }), node(1, func(n *impl.Node) { n.Tick = 50 }),
		changed(wood(), func(t *impl.Tree) { t.Now, t.Nodes[2].Tick = 0, 0 }), node(6, func(n *impl.Node) { n.Names, n.Acl.Users = []impl.Entry{}, []impl.Named{} })}
	for i, other := range alike {
		if !impl.SameTree(wood(), other) || !impl.SameTree(other, wood()) {
			t.Errorf("tree %d is the same: %+v", i, other)
		}
	}
}

func TestAskedOfTreesThatAreNotRight(t *testing.T) {
	root := impl.Cred{Root: true}
	for _, b := range brokenTrees() {
		for _, n := range []int64{0, 1, 2, 3, 6} {
			if got := impl.NodeOf(b.tree, n); !reflect.DeepEqual(got, impl.Node{}) {
				t.Errorf("%s: NodeOf %d is %+v", b.what, n, got)
			}
			if impl.NamesOf(b.tree, n) != 0 || impl.NodeMode(b.tree, n) != 0 || impl.PathOf(b.tree, n) != "" || impl.NodeMay(b.tree, root, n, 0) || impl.NodeMay(b.tree, impl.Cred{Uid: 1}, n, 0) {
				t.Errorf("%s: something is told of the node %d", b.what, n)
			}
		}
		if impl.FirstFree(b.tree) != 0 || impl.SameTree(b.tree, b.tree) || impl.SameTree(wood(), b.tree) || impl.SameTree(b.tree, wood()) {
			t.Errorf("%s: something is told of it", b.what)
		}
	}
}

func TestTreesAskedChangeNothing(t *testing.T) {
	trees := rightTrees()
	for _, b := range brokenTogether() {
		trees = append(trees, b.tree)
	}
	c := impl.Cred{Uid: 5, Gid: 7, Groups: []int64{2, 7}}
	for i, tree := range trees {
		before := copyOfTree(tree)
		for _, n := range treeNumbers {
			impl.NodeOf(tree, n)
			impl.NamesOf(tree, n)
			impl.NodeMode(tree, n)
			impl.PathOf(tree, n)
			for _, want := range []int64{-1, 0, 7, 8, math.MinInt64, math.MaxInt64} {
				impl.NodeMay(tree, c, n, want)
			}
		}
		impl.TreeRight(tree)
		impl.FirstFree(tree)
		impl.SameTree(tree, tree)
		wantSameTree(t, fmt.Sprint("tree ", i), tree, before)
	}
	if !slices.Equal(c.Groups, []int64{2, 7}) {
		t.Errorf("the cred is now %+v", c)
	}
}

// Lists that are one when handed in are several in the answer, and none of them is one that was handed in.
func TestNodesShareNothing(t *testing.T) {
	list := roomy(named(5, 6, 8, 3))
	tree := changedNode(wood(), 2, func(n *impl.Node) {
		n.Acl, n.Default = masked(list, list, 7), masked(list, list, 7)
		n.Names = append(make([]impl.Entry, 0, 9), n.Names...)
	})
	before := copyOfTree(tree)
	lists := func(n *impl.Node) []*[]impl.Named {
		return []*[]impl.Named{&n.Acl.Users, &n.Acl.Groups, &n.Default.Users, &n.Default.Groups}
	}
	for i := range 4 {
		got := impl.NodeOf(tree, 2)
		scribble(*lists(&got)[i])
		for k, other := range lists(&got) {
			if k != i && !slices.Equal(*other, named(5, 6, 8, 3)) {
				t.Errorf("the lists %d and %d of an answer share memory", i, k)
			}
		}
		got.Names = got.Names[:cap(got.Names)]
		for k := range got.Names {
			got.Names[k] = at("no", 7)
		}
		wantSameTree(t, "after its node was written over", tree, before)
	}
	got := impl.NodeOf(tree, 2)
	scribble(list)
	tree.Nodes[1].Names[0] = at("no", 7)
	if !reflect.DeepEqual(copyOfNode(got), before.Nodes[1]) {
		t.Errorf("an answer shares memory with what was handed in: %+v", got)
	}
	one, two := impl.TreeNew(1, 2, 3), impl.TreeNew(1, 2, 3)
	one.Tree.Nodes[0].Owner = 9
	if two.Tree.Nodes[0].Owner != 1 || impl.TreeNew(1, 2, 3).Tree.Nodes[0].Owner != 1 {
		t.Error("two new trees share memory")
	}
}
