package tests

import (
	"fmt"
	"math"
	"slices"
	"strings"
	"testing"

	"loop.example/g00622/impl"
)

// yard has directories that let everybody do all, a file in each of two of them, and links to a directory, to a file, to
// nothing, and to itself; each Tick is the node's number.
func yard() impl.Tree {
	t := impl.Tree{Now: 20, Nodes: []impl.Node{
		dirNode(1, at("d", 2), at("f", 4), at("ld", 6), at("lf", 7), at("ln", 8)),
		dirNode(1, at("e", 3), at("g", 5), at("lo", 9)),
		dirNode(2),
		fileNode(1),
		fileNode(1),
		linkNode(1, "d"),
		linkNode(1, "d/g"),
		linkNode(1, "d/none"),
		linkNode(1, "lo"),
		{}, {}, {},
	}}
	for i := range t.Nodes[:9] {
		t.Nodes[i].Tick = int64(i) + 1
		if t.Nodes[i].Kind == impl.KdDir {
			t.Nodes[i].Acl = impl.AclOf(0o777)
		}
	}
	return t
}

// crowd fills the directory d of the yard by further names of g.
func crowd(t *impl.Tree) {
	t.Nodes[1].Names = []impl.Entry{at("e", 3), at("g", 5), at("g1", 5), at("g2", 5), at("g3", 5), at("lo", 9)}
	t.Nodes[4].Links = 4
}

func only(bits int64) impl.Acl {
	return impl.Acl{User: bits, Group: bits, Other: bits}
}

// rung adds a fault to a call and its tree.
type rung struct {
	what   string
	code   int64
	change func(t *impl.Tree, x *asked)
}

// climb asks for each fault alone, and then for all together, from the one that is named last to the one that is named
// first: each time the one that came last is to be told.
func climb(t *testing.T, tree impl.Tree, x asked, rungs ...rung) {
	t.Helper()
	wantCode(t, tree, x, impl.OK)
	all, last := copyOfTree(tree), x
	for _, r := range rungs {
		alone, y := copyOfTree(tree), x
		r.change(&alone, &y)
		r.change(&all, &last)
		wantCode(t, alone, y, r.code)
		wantCode(t, all, last, r.code)
		if t.Failed() {
			t.Fatalf("%s: at the fault %q", x.call, r.what)
		}
	}
}

func late(t *impl.Tree, x *asked) { t.Now = impl.MaxTime }

// formRungs are the faults that come ahead of all others, whatever the call.
func formRungs() []rung {
	return []rung{
		{"no path", impl.ErrForm, func(t *impl.Tree, x *asked) { x.path = "new" }},
		{"a cred that is not right", impl.ErrForm, func(t *impl.Tree, x *asked) { x.path, x.c.Uid = "/no/x", -1 }},
		{"a tree that is not right", impl.ErrForm, func(t *impl.Tree, x *asked) { x.path, t.Nodes[0].Links = "/no/x", 2 }},
		{"a path too long", impl.ErrSize, func(t *impl.Tree, x *asked) { x.path = tooLong }},
	}
}

// walkRungs are those of a way.
func walkRungs() []rung {
	return []rung{
		{"not let in", impl.ErrAccess, func(t *impl.Tree, x *asked) { x.path, t.Nodes[1].Acl = "/d/g", only(2) }},
		{"no directory", impl.ErrNotDir, func(t *impl.Tree, x *asked) { x.path = "/f/x" }},
		{"nothing on the way", impl.ErrNone, func(t *impl.Tree, x *asked) { x.path = "/no/x" }},
		{"in a circle", impl.ErrLoop, func(t *impl.Tree, x *asked) { x.path, t.Nodes[7].Body = "/ln/x", "ln" }},
		{"a part too long", impl.ErrRange, func(t *impl.Tree, x *asked) { x.path = "/" + part13 }},
	}
}

func TestMakingFaultsInOrder(t *testing.T) {
	for _, call := range makers {
		x := asked{call: call, c: asOther, path: "/d/new", mode: 0o750, umask: 0o022}
		wrong := []rung{{"a mode that is none", impl.ErrForm, func(t *impl.Tree, x *asked) { x.path, x.mode = "/no/x", 4096 }}, {"an umask that is none", impl.ErrForm, func(t *impl.Tree, x *asked) { x.path, x.umask = "/no/x", -1 }}}
		if call == "Symlink" {
			x.mode, x.umask, x.body = 0, 0, "to"
			wrong = []rung{{"a body that is none", impl.ErrForm, func(t *impl.Tree, x *asked) { x.path, x.body = "/no/x", "" }}, {"a body that is too long", impl.ErrForm, func(t *impl.Tree, x *asked) { x.body = body40 + "x" }},
				{"a body that is no text", impl.ErrSize, func(t *impl.Tree, x *asked) { x.body = tooLong }}, {"a body that is one again", impl.ErrForm, func(t *impl.Tree, x *asked) { x.path, x.body = "x", "x" }}}
		}
		climb(t, yard(), x, slices.Concat([]rung{
			{"MaxTime", impl.ErrFull, late},
			{"none free", impl.ErrFull, func(t *impl.Tree, x *asked) { t.Nodes = t.Nodes[:9] }},
			{"MaxEntries", impl.ErrFull, func(t *impl.Tree, x *asked) { crowd(t) }},
			{"without 2", impl.ErrAccess, func(t *impl.Tree, x *asked) { t.Nodes[1].Acl = only(5) }},
			{"a node is there", impl.ErrThere, func(t *impl.Tree, x *asked) { x.path = "/d/g" }},
			{"a link to nothing is there", impl.ErrThere, func(t *impl.Tree, x *asked) { x.path = "/ln" }},
			{"no name", impl.ErrThere, func(t *impl.Tree, x *asked) { x.path = "/d/." }},
			{"no name at all", impl.ErrThere, func(t *impl.Tree, x *asked) { x.path = "/" }},
		}, walkRungs(), formRungs()[:1], wrong, formRungs()[1:])...)
	}
}

func TestLinkFaultsInOrder(t *testing.T) {
	climb(t, yard(), asked{call: "Link", c: asOther, old: "/f", path: "/d/new"}, slices.Concat([]rung{
		{"MaxTime", impl.ErrFull, late},
		{"MaxLinks", impl.ErrFull, func(t *impl.Tree, x *asked) {
			t.Nodes[2].Names, t.Nodes[3].Links = []impl.Entry{at("1", 4), at("2", 4), at("3", 4), at("4", 4)}, 5
		}},
		{"MaxEntries", impl.ErrFull, func(t *impl.Tree, x *asked) { crowd(t) }},
		{"without 2", impl.ErrAccess, func(t *impl.Tree, x *asked) { t.Nodes[1].Acl = only(1) }},
		{"a node is there", impl.ErrThere, func(t *impl.Tree, x *asked) { x.path = "/d/g" }},
		{"itself is there", impl.ErrThere, func(t *impl.Tree, x *asked) { x.path = "/f" }},
		{"no name", impl.ErrThere, func(t *impl.Tree, x *asked) { x.path = "/d/e/.." }},
	}, walkRungs(), []rung{
		{"no new path", impl.ErrForm, func(t *impl.Tree, x *asked) { x.path = "new" }},
		{"a directory", impl.ErrIsDir, func(t *impl.Tree, x *asked) { x.old = "/d" }},
		{"the top", impl.ErrIsDir, func(t *impl.Tree, x *asked) { x.old = "/" }},
		{"nothing", impl.ErrNone, func(t *impl.Tree, x *asked) { x.old = "/none" }},
		{"not let in to the old one", impl.ErrAccess, func(t *impl.Tree, x *asked) { x.old, t.Nodes[1].Acl = "/d/g", only(6) }},
		{"no directory on the old way", impl.ErrNotDir, func(t *impl.Tree, x *asked) { x.old = "/f/" }},
		{"a part too long", impl.ErrRange, func(t *impl.Tree, x *asked) { x.old = "/" + part13 }},
		{"no old path", impl.ErrForm, func(t *impl.Tree, x *asked) { x.old = "" }},
		{"a cred", impl.ErrForm, func(t *impl.Tree, x *asked) { x.old, x.c.Gid = "/none", 10000 }},
		{"a tree", impl.ErrForm, func(t *impl.Tree, x *asked) { x.old, t.Now = "/none", -1 }},
		{"an old path too long", impl.ErrSize, func(t *impl.Tree, x *asked) { x.old = tooLong }},
		{"a new path too long", impl.ErrSize, func(t *impl.Tree, x *asked) { x.old, x.path = "", tooLong }},
	})...)
}

func TestTakingFaultsInOrder(t *testing.T) {
	rungs := func(first ...rung) []rung {
		return slices.Concat([]rung{{"MaxTime", impl.ErrFull, late}}, first, []rung{
			{"sticky", impl.ErrOwner, func(t *impl.Tree, x *asked) { t.Nodes[1].Extra = impl.ExSticky }},
			{"without 2", impl.ErrAccess, func(t *impl.Tree, x *asked) { t.Nodes[1].Acl = only(1) }},
			{"here", impl.ErrState, func(t *impl.Tree, x *asked) { x.path = "/d/e/." }},
			{"above", impl.ErrState, func(t *impl.Tree, x *asked) { x.path = "/d/e/../" }},
			{"the top", impl.ErrState, func(t *impl.Tree, x *asked) { x.path = "/" }},
			{"nothing", impl.ErrNone, func(t *impl.Tree, x *asked) { x.path = "/d/none" }},
		}, walkRungs(), formRungs())
	}
	climb(t, yard(), asked{call: "Unlink", c: asOther, path: "/d/g"}, rungs(rung{"a directory", impl.ErrIsDir, func(t *impl.Tree, x *asked) { x.path = "/d/e" }})...)
	climb(t, yard(), asked{call: "Unlink", c: asOther, path: "/d/lo"}, rungs(rung{"a directory with names", impl.ErrIsDir, func(t *impl.Tree, x *asked) {
		x.path, t.Nodes[2].Names, t.Nodes[3].Links = "/d/e", []impl.Entry{at("x", 4)}, 2
	}})...)
	climb(t, yard(), asked{call: "Rmdir", c: asOther, path: "/d/e"}, rungs(
		rung{"names in it", impl.ErrEmpty, func(t *impl.Tree, x *asked) {
			t.Nodes[2].Names, t.Nodes[3].Links = []impl.Entry{at("x", 4)}, 2
		}},
		rung{"a file", impl.ErrNotDir, func(t *impl.Tree, x *asked) { x.path = "/d/g" }},
		rung{"a link", impl.ErrNotDir, func(t *impl.Tree, x *asked) { x.path = "/d/lo" }},
	)...)
}

func TestRenameFaultsInOrder(t *testing.T) {
	behind := []rung{
		{"sticky", impl.ErrOwner, func(t *impl.Tree, x *asked) { x.old, t.Nodes[1].Extra = "/d/e", impl.ExSticky }},
		{"sticky, and the same node", impl.ErrOwner, func(t *impl.Tree, x *asked) { x.path, t.Nodes[1].Extra = "/d/e", impl.ExSticky }},
		{"without 2 where it comes to", impl.ErrAccess, func(t *impl.Tree, x *asked) { x.path, t.Nodes[2].Acl = "/d/e/new", only(5) }},
		{"without 2 where it was", impl.ErrAccess, func(t *impl.Tree, x *asked) { x.path, t.Nodes[1].Acl = "/d/g", only(5) }},
		{"no new name", impl.ErrState, func(t *impl.Tree, x *asked) { x.path = "/d/e/." }},
		{"no new name at all", impl.ErrState, func(t *impl.Tree, x *asked) { x.path = "/" }},
		{"not let in to the new one", impl.ErrAccess, func(t *impl.Tree, x *asked) { x.path, t.Nodes[2].Acl = "/d/e/new", only(2) }},
		{"no directory on the new way", impl.ErrNotDir, func(t *impl.Tree, x *asked) { x.path = "/f/x" }},
		{"nothing on the new way", impl.ErrNone, func(t *impl.Tree, x *asked) { x.path = "/none/x" }},
		{"no new path", impl.ErrForm, func(t *impl.Tree, x *asked) { x.path = "new" }},
		{"no old name", impl.ErrState, func(t *impl.Tree, x *asked) { x.old = "/d/." }},
		{"no old name at all", impl.ErrState, func(t *impl.Tree, x *asked) { x.old = "/" }},
		{"nothing", impl.ErrNone, func(t *impl.Tree, x *asked) { x.old = "/none" }},
		{"not let in to the old one", impl.ErrAccess, func(t *impl.Tree, x *asked) { x.old, t.Nodes[1].Acl = "/d/g", only(6) }},
		{"no directory on the old way", impl.ErrNotDir, func(t *impl.Tree, x *asked) { x.old = "/f/." }},
		{"a part too long", impl.ErrRange, func(t *impl.Tree, x *asked) { x.old = "/" + part13 }},
		{"no old path", impl.ErrForm, func(t *impl.Tree, x *asked) { x.old = "f" }},
		{"a cred", impl.ErrForm, func(t *impl.Tree, x *asked) { x.old, x.c.Groups = "/none", []int64{2, 1} }},
		{"a tree", impl.ErrForm, func(t *impl.Tree, x *asked) { x.old, t.Nodes[0].Up = "/none", 2 }},
		{"a new path too long", impl.ErrSize, func(t *impl.Tree, x *asked) { x.path = tooLong }},
		{"an old path too long", impl.ErrSize, func(t *impl.Tree, x *asked) { x.old, x.path = tooLong, "" }},
	}
	climb(t, yard(), asked{call: "Rename", c: asOther, old: "/f", path: "/d/new"}, slices.Concat([]rung{
		{"MaxTime", impl.ErrFull, late},
		{"MaxEntries", impl.ErrFull, func(t *impl.Tree, x *asked) { crowd(t) }},
		{"into itself", impl.ErrRange, func(t *impl.Tree, x *asked) { x.old = "/d" }},
	}, behind)...)
	// With a further directory in the top, which is not empty.
	tree := changed(yard(), func(t *impl.Tree) {
		t.Nodes[9] = withMode(dirNode(1, at("in", 11)), 0o777)
		t.Nodes[10] = fileNode(1)
		t.Nodes[0].Names = []impl.Entry{at("d", 2), at("f", 4), at("k", 10), at("ld", 6), at("lf", 7), at("ln", 8)}
	})
	climb(t, tree, asked{call: "Rename", c: asOther, old: "/d/g", path: "/f"}, slices.Concat([]rung{
		{"MaxTime", impl.ErrFull, late},
		{"upon a directory with names", impl.ErrEmpty, func(t *impl.Tree, x *asked) { x.old, x.path = "/d/e", "/k" }},
		{"a file upon it", impl.ErrIsDir, func(t *impl.Tree, x *asked) { x.old, x.path = "/d/g", "/k" }},
		{"a link upon it", impl.ErrIsDir, func(t *impl.Tree, x *asked) { x.old, x.path = "/d/lo", "/k" }},
		{"a directory upon a file", impl.ErrNotDir, func(t *impl.Tree, x *asked) { x.old, x.path = "/d/e", "/f" }},
		{"a directory upon a link to one", impl.ErrNotDir, func(t *impl.Tree, x *asked) { x.old, x.path = "/d/e", "/ld" }},
		{"sticky where it comes to", impl.ErrOwner, func(t *impl.Tree, x *asked) { t.Nodes[0].Extra = impl.ExSticky }},
		{"sticky, upon a directory with names", impl.ErrOwner, func(t *impl.Tree, x *asked) { x.path, t.Nodes[0].Extra = "/k", impl.ExSticky }},
		{"into itself, upon a file", impl.ErrRange, func(t *impl.Tree, x *asked) {
			t.Nodes[0].Extra, t.Nodes[1].Extra, x.old, x.path = 0, impl.ExSticky, "/d", "/d/g"
		}},
		{"into what is within it", impl.ErrRange, func(t *impl.Tree, x *asked) { x.old, x.path = "/d", "/d/e/new" }},
	}, behind)...)
}

func TestSettingFaultsInOrder(t *testing.T) {
	wrong := map[string][]rung{
		"Chmod":      {{"a mode", impl.ErrForm, func(t *impl.Tree, x *asked) { x.path, x.mode = "/no/x", 4096 }}},
		"Chown":      {{"an owner", impl.ErrForm, func(t *impl.Tree, x *asked) { x.path, x.uid = "/no/x", 10000 }}, {"a group", impl.ErrForm, func(t *impl.Tree, x *asked) { x.path, x.uid, x.gid = "/no/x", 0, -1 }}},
		"SetAcl":     {{"a list", impl.ErrForm, func(t *impl.Tree, x *asked) { x.path, x.list = "/no/x", impl.Acl{User: 8} }}},
		"SetDefault": {{"a list, shared", impl.ErrForm, func(t *impl.Tree, x *asked) { x.path, x.list, x.shared = "/no/x", impl.Acl{Mask: 1}, true }}, {"a list, not shared", impl.ErrForm, func(t *impl.Tree, x *asked) { x.path, x.list, x.shared = "/no/x", impl.Acl{Mask: 1}, false }}},
	}
	for _, call := range setters {
		x := asked{call: call, c: asOwner, path: "/d"}
		if call == "Chown" {
			x.uid, x.gid = 1, 2
		}
		first := []rung{{"MaxTime", impl.ErrFull, late}}
		if call == "SetDefault" {
			first = append(first, rung{"of one's own file", impl.ErrNotDir, func(t *impl.Tree, x *asked) { x.path, t.Nodes[3].Owner = "/f", 1 }})
		}
		rungs := slices.Concat(first, []rung{
			{"not one's own", impl.ErrOwner, func(t *impl.Tree, x *asked) { x.path, t.Nodes[3].Owner = "/f", 5 }},
			{"nor behind a link", impl.ErrOwner, func(t *impl.Tree, x *asked) { x.path, t.Nodes[6].Owner = "/lf", 1 }},
			{"nothing", impl.ErrNone, func(t *impl.Tree, x *asked) { x.path = "/none" }},
			{"a link to nothing", impl.ErrNone, func(t *impl.Tree, x *asked) { x.path, t.Nodes[7].Owner = "/ln", 1 }},
			{"a link to itself", impl.ErrLoop, func(t *impl.Tree, x *asked) { x.path, t.Nodes[8].Owner = "/d/lo", 1 }},
		}, walkRungs(), formRungs()[:1], wrong[call], formRungs()[1:])
		climb(t, yard(), x, rungs...)
	}
}

func TestLookingFaultsInOrder(t *testing.T) {
	first := map[string][]rung{
		"Access": {{"may not", impl.ErrAccess, func(t *impl.Tree, x *asked) { x.path, x.want = "/f", 4 }}, {"may not both", impl.ErrAccess, func(t *impl.Tree, x *asked) { x.path, x.want, t.Nodes[3].Acl = "/f", 6, only(4) }}},
		"ReadDir": {{"without 4", impl.ErrAccess, func(t *impl.Tree, x *asked) { t.Nodes[1].Acl = only(3) }}, {"of a file", impl.ErrNotDir, func(t *impl.Tree, x *asked) { x.path = "/f" }},
			{"of a link to a file", impl.ErrNotDir, func(t *impl.Tree, x *asked) { x.path = "/lf" }}},
	}
	for _, call := range lookers {
		x := asked{call: call, c: asOther, path: "/d", follow: call == "Stat"}
		wrong := []rung{}
		if call == "Access" {
			x.want = 7
			wrong = []rung{{"no bits", impl.ErrForm, func(t *impl.Tree, x *asked) { x.path, x.want = "/no/x", 8 }}, {"below 0", impl.ErrForm, func(t *impl.Tree, x *asked) { x.path, x.want = "/no/x", -1 }}}
		}
		climb(t, yard(), x, slices.Concat(first[call], []rung{
			{"nothing", impl.ErrNone, func(t *impl.Tree, x *asked) { x.path = "/none" }},
			{"a link to nothing", impl.ErrNone, func(t *impl.Tree, x *asked) { x.path = "/ln" }},
			{"a link to itself", impl.ErrLoop, func(t *impl.Tree, x *asked) { x.path, t.Nodes[1].Acl = "/d/lo", only(7) }},
		}, walkRungs(), formRungs()[:1], wrong, formRungs()[1:])...)
		// Those that change nothing ask for no time.
		wantCode(t, changed(yard(), func(t *impl.Tree) { t.Now = impl.MaxTime }), x, impl.OK)
	}
}

// Who changes a directory's names has 2 and 1 of it, both at once, by each class; root is not asked.
func TestNamesAreChangedByWhoHasBoth(t *testing.T) {
	calls := []asked{{call: "Mkdir", path: "/d/new"}, {call: "Create", path: "/d/new"}, {call: "Symlink", path: "/d/new", body: "x"}, {call: "Link", old: "/f", path: "/d/new"}, {call: "Unlink", path: "/d/g"}, {call: "Rmdir", path: "/d/e"},
		{call: "Rename", old: "/f", path: "/d/new"}, {call: "Rename", old: "/d/g", path: "/new"}, {call: "Rename", old: "/d/g", path: "/d/new"}, {call: "Rename", old: "/d/g", path: "/d/g"}}
	lists := []struct {
		list impl.Acl
		may  string // who of the walkers may
	}{
		{only(0), "0"}, {only(1), "0"}, {only(2), "0"}, {only(3), "01234567"}, {only(4), "0"}, {only(5), "0"}, {only(6), "0"}, {only(7), "01234567"},
		{impl.Acl{User: 3}, "01"}, {impl.Acl{Group: 3}, "023"}, {impl.Acl{Other: 3}, "04567"}, {impl.Acl{User: 3, Group: 1, Other: 2}, "01"},
		{impl.Acl{Users: named(5, 3), Masked: true, Mask: 3}, "04"}, {impl.Acl{Users: named(5, 7), Masked: true, Mask: 5}, "0"}, {impl.Acl{Groups: named(7, 3), Masked: true, Mask: 7}, "056"},
		{impl.Acl{Group: 2, Groups: named(8, 1), Masked: true, Mask: 7}, "0"}, {impl.Acl{Group: 2, Groups: named(8, 3), Masked: true, Mask: 7}, "03"},
	}
	for _, l := range lists {
		tree := changedNode(yard(), 2, func(n *impl.Node) { n.Acl = l.list })
		for i, c := range walkers() {
			for _, x := range calls {
				x.c = c
				code := int64(impl.ErrAccess)
				if strings.Contains(l.may, fmt.Sprint(i)) {
					code = impl.OK
				}
				wantCode(t, tree, x, code)
			}
		}
	}
}

// A sticky directory keeps its names from all but root, who owns the node, and who owns the directory.
func TestStickyDirectories(t *testing.T) {
	ends := map[string]int64{"root": 0, "who owns the node": 0, "who owns the directory": 0, "one of the node's group": impl.ErrOwner, "one of the directory's group": impl.ErrOwner, "neither": impl.ErrOwner}
	who := map[string]impl.Cred{"root": {Uid: 9, Gid: 9, Root: true}, "who owns the node": {Uid: 5, Gid: 9}, "who owns the directory": {Uid: 1, Gid: 9}, "one of the node's group": {Uid: 9, Gid: 7}, "one of the directory's group": {Uid: 9, Gid: 2}, "neither": {Uid: 9, Gid: 9}}
	for name, end := range ends {
		for extra := range int64(8) {
			tree := changed(yard(), func(t *impl.Tree) { t.Nodes[1].Extra, t.Nodes[2].Owner = extra, 5 })
			want := int64(impl.OK)
			if extra%2 == 1 {
				want = end
			}
			for _, x := range []asked{{call: "Unlink", path: "/d/g"}, {call: "Unlink", path: "/d/lo"}, {call: "Rmdir", path: "/d/e"}, {call: "Rename", old: "/d/g", path: "/new"}, {call: "Rename", old: "/d/g", path: "/d/new"},
				{call: "Rename", old: "/d/e", path: "/new"}, {call: "Rename", old: "/f", path: "/d/g"}, {call: "Rename", old: "/lf", path: "/d/lo"}, {call: "Rename", old: "/d/g", path: "/d/g"}} {
				x.c = who[name]
				wantCode(t, tree, x, want)
			}
			// What comes in under a new name is kept from nobody.
			for _, x := range []asked{{call: "Create", path: "/d/new"}, {call: "Link", old: "/d/g", path: "/d/new"}, {call: "Link", old: "/d/g", path: "/new"}, {call: "Rename", old: "/f", path: "/d/new"}} {
				x.c = who[name]
				wantCode(t, tree, x, impl.OK)
			}
		}
	}
}

// Paths with and without a slash at their end, through links, to links, and to links to nothing; what is there afterwards.
func TestWhatPathsMean(t *testing.T) {
	rows := []struct {
		x    asked
		code int64
		path string // by root, without follow, afterwards
		node int64
	}{
		// What is made, without follow: a link at the end is there, unless a slash leads through it.
		{asked{call: "Mkdir", path: "/new/"}, impl.OK, "/new", 10}, {asked{call: "Create", path: "/new/"}, impl.OK, "/new", 10}, {asked{call: "Symlink", path: "/new//", body: "x"}, impl.OK, "/new", 10}, {asked{call: "Mkdir", path: "/ld/new"}, impl.OK, "/d/new", 10},
		{asked{call: "Mkdir", path: "/ld"}, impl.ErrThere, "/ld", 6}, {asked{call: "Mkdir", path: "/ld/"}, impl.ErrThere, "/ld", 6}, {asked{call: "Create", path: "/ln"}, impl.ErrThere, "/ln", 8}, {asked{call: "Create", path: "/ln/"}, impl.OK, "/d/none", 10},
		{asked{call: "Mkdir", path: "/ln/"}, impl.OK, "/d/none", 10}, {asked{call: "Symlink", path: "/ln/", body: "x"}, impl.OK, "/d/none", 10}, {asked{call: "Create", path: "/ln/x"}, impl.ErrNone, "/d/none", 0}, {asked{call: "Create", path: "/lf/"}, impl.ErrNotDir, "/lf", 7},
		{asked{call: "Create", path: "/d/lo/"}, impl.ErrLoop, "/d/lo", 9}, {asked{call: "Mkdir", path: "/d/../e"}, impl.OK, "/e", 10}, {asked{call: "Mkdir", path: "/d/e/.."}, impl.ErrThere, "/d", 2}, {asked{call: "Mkdir", path: "//new"}, impl.OK, "/new", 10},
		{asked{call: "Create", path: "/" + name12}, impl.OK, "/" + name12, 10}, {asked{call: "Mkdir", path: "/d/e/../../ld/e/./new"}, impl.OK, "/d/e/new", 10},
		// Both of Link without follow: a link is named itself.
		{asked{call: "Link", old: "/lf", path: "/d/new"}, impl.OK, "/d/new", 7}, {asked{call: "Link", old: "/lf/", path: "/d/new"}, impl.ErrNotDir, "/d/new", 0}, {asked{call: "Link", old: "/ln", path: "/new"}, impl.OK, "/new", 8}, {asked{call: "Link", old: "/ln/", path: "/new"}, impl.ErrNone, "/new", 0},
		{asked{call: "Link", old: "/ld", path: "/new"}, impl.OK, "/new", 6}, {asked{call: "Link", old: "/ld/", path: "/new"}, impl.ErrIsDir, "/new", 0}, {asked{call: "Link", old: "/ld/g", path: "/ld/new"}, impl.OK, "/d/new", 5}, {asked{call: "Link", old: "/f", path: "/ln"}, impl.ErrThere, "/ln", 8},
		{asked{call: "Link", old: "/f", path: "/ln/"}, impl.OK, "/d/none", 4}, {asked{call: "Link", old: "/f", path: "/new/"}, impl.OK, "/new", 4}, {asked{call: "Link", old: "/d/lo", path: "/new"}, impl.OK, "/new", 9}, {asked{call: "Link", old: "/d/e/../g", path: "/new"}, impl.OK, "/new", 5},
		// What is taken away, without follow.
		{asked{call: "Unlink", path: "/lf"}, impl.OK, "/d/g", 5}, {asked{call: "Unlink", path: "/lf"}, impl.OK, "/lf", 0}, {asked{call: "Unlink", path: "/lf/"}, impl.ErrNotDir, "/d/g", 5}, {asked{call: "Unlink", path: "/ld"}, impl.OK, "/d/e", 3}, {asked{call: "Unlink", path: "/ld/"}, impl.ErrIsDir, "/ld", 6},
		{asked{call: "Unlink", path: "/ld/g"}, impl.OK, "/d/g", 0}, {asked{call: "Unlink", path: "/d/lo"}, impl.OK, "/d/lo", 0}, {asked{call: "Unlink", path: "/d/g/"}, impl.ErrNotDir, "/d/g", 5}, {asked{call: "Unlink", path: "/ln"}, impl.OK, "/ln", 0}, {asked{call: "Unlink", path: "/ln/"}, impl.ErrNone, "/ln", 8},
		{asked{call: "Rmdir", path: "/ld"}, impl.ErrNotDir, "/d", 2}, {asked{call: "Rmdir", path: "/ld/"}, impl.ErrEmpty, "/d", 2}, {asked{call: "Rmdir", path: "/ld/e"}, impl.OK, "/d/e", 0}, {asked{call: "Rmdir", path: "/d/e/"}, impl.OK, "/d/e", 0}, {asked{call: "Rmdir", path: "/d/e/."}, impl.ErrState, "/d/e", 3},
		{asked{call: "Rmdir", path: "/d/e/.."}, impl.ErrState, "/d", 2}, {asked{call: "Rmdir", path: "/.."}, impl.ErrState, "/", 1},
		// Both of Rename, without follow.
		{asked{call: "Rename", old: "/lf", path: "/new"}, impl.OK, "/new", 7}, {asked{call: "Rename", old: "/f", path: "/lf"}, impl.OK, "/lf", 4}, {asked{call: "Rename", old: "/f", path: "/lf"}, impl.OK, "/d/g", 5}, {asked{call: "Rename", old: "/f", path: "/lf/"}, impl.ErrNotDir, "/lf", 7},
		{asked{call: "Rename", old: "/f", path: "/ln/"}, impl.OK, "/d/none", 4}, {asked{call: "Rename", old: "/f", path: "/ln"}, impl.OK, "/ln", 4}, {asked{call: "Rename", old: "/ld/", path: "/new"}, impl.OK, "/new", 2}, {asked{call: "Rename", old: "/ld", path: "/new/"}, impl.OK, "/new", 6},
		{asked{call: "Rename", old: "/ld/g", path: "/ld/h"}, impl.OK, "/d/h", 5}, {asked{call: "Rename", old: "/d", path: "/ld"}, impl.ErrNotDir, "/d", 2}, {asked{call: "Rename", old: "/d", path: "/ld/"}, impl.OK, "/d", 2}, {asked{call: "Rename", old: "/d", path: "/ld/x"}, impl.ErrRange, "/d", 2},
		{asked{call: "Rename", old: "/d/", path: "/new/"}, impl.OK, "/new/g", 5}, {asked{call: "Rename", old: "/d/e", path: "/d/e/../../e"}, impl.OK, "/e", 3}, {asked{call: "Rename", old: "/d/e/", path: "/d/.."}, impl.ErrState, "/d/e", 3},
	}
	for _, r := range rows {
		r.x.c = asRoot
		got := wantCode(t, yard(), r.x, r.code)
		after := yard()
		if r.code == impl.OK {
			after = got.tree
		}
		if w := impl.Walk(after, asRoot, r.path, false); w.Code != impl.OK || w.Node != r.node || !ownTreeRight(after) {
			t.Errorf("%s: then %q is %+v, want %d", shownAsk(r.x), r.path, w, r.node)
		}
	}
}

// What is set and what is looked at is at the end of links, but for Stat without follow.
func TestLinksAreFollowed(t *testing.T) {
	ends := map[string]int64{"/f": 4, "/f/": 0, "/d": 2, "/d/": 2, "/ld": 2, "/ld/": 2, "/lf": 5, "/ld/g": 5, "/ld/.": 2, "/ld/e/..": 2, "/ln": 0, "/d/lo": 0, "/": 1, "/..": 1}
	for path, node := range ends {
		for _, call := range slices.Concat(setters, []string{"Access", "Stat"}) {
			x := asked{call: call, c: asRoot, path: path, mode: 0o4321, uid: 33, gid: 44, list: impl.AclOf(0o123), shared: true, want: 4, follow: true}
			got := ask(yard(), x)
			if node == 0 {
				if got.code == impl.OK {
					t.Errorf("%s leads nowhere, and was answered %+v", shownAsk(x), got)
				}
				continue
			}
			if call == "SetDefault" && node > 3 {
				wantCode(t, yard(), x, impl.ErrNotDir)
				continue
			}
			want := yard()
			n := &want.Nodes[node-1]
			n.Tick, want.Now = 21, 21
			switch call {
			case "Chmod":
				n.Extra, n.Acl = 4, impl.Acl{User: 3, Group: 2, Other: 1}
			case "Chown":
				n.Owner, n.Group = 33, 44
			case "SetAcl":
				n.Acl = impl.Acl{User: 1, Group: 2, Other: 3}
			case "SetDefault":
				n.Shared, n.Default = true, impl.Acl{User: 1, Group: 2, Other: 3}
			case "Access":
				wantTold(t, yard(), x, told{})
				continue
			case "Stat":
				wantTold(t, yard(), x, told{stat: impl.StatOut{Node: node, Kind: n.Kind, Mode: impl.NodeMode(yard(), node), Owner: n.Owner, Group: n.Group, Links: 1}})
				continue
			}
			wantTold(t, yard(), x, told{tree: want})
		}
	}
	link := impl.StatOut{Kind: impl.KdLink, Mode: 0o777, Owner: 5, Group: 7, Links: 1}
	for path, node := range map[string]int64{"/ld": 6, "/lf": 7, "/ln": 8, "/d/lo": 9, "/ld/lo": 9} {
		want := link
		want.Node = node
		wantTold(t, yard(), asked{call: "Stat", c: asOther, path: path}, told{stat: want})
	}
	for path, code := range map[string]int64{"/lf/": impl.ErrNotDir, "/ln/": impl.ErrNone, "/d/lo/": impl.ErrLoop, "/none": impl.ErrNone} {
		wantCode(t, yard(), asked{call: "Stat", c: asOther, path: path}, code)
	}
	wantTold(t, yard(), asked{call: "Stat", c: asOther, path: "/ld/"}, told{stat: impl.StatOut{Node: 2, Kind: impl.KdDir, Mode: 0o777, Owner: 1, Group: 2, Links: 1}})
}

// A link's body may end with a part that is too long for an entry's name: nothing comes there, and the tree stays right.
func TestNothingIsNamedByTooLongAPart(t *testing.T) {
	tree := changedNode(yard(), 8, func(n *impl.Node) { n.Body = "d/" + part13 })
	for _, x := range []asked{{call: "Mkdir", path: "/ln/"}, {call: "Create", path: "/ln/"}, {call: "Symlink", path: "/ln/", body: "x"}, {call: "Link", old: "/f", path: "/ln/"}, {call: "Rename", old: "/f", path: "/ln/"}, {call: "Rename", old: "/d/e", path: "/ln/"}} {
		x.c = asRoot
		wantCode(t, tree, x, impl.ErrRange)
	}
	for _, x := range []asked{{call: "Unlink", path: "/ln/"}, {call: "Rmdir", path: "/ln/"}, {call: "Link", old: "/ln/", path: "/new"}, {call: "Rename", old: "/ln/", path: "/new"}, {call: "Chmod", path: "/ln"}, {call: "Stat", path: "/ln/"}, {call: "Access", path: "/ln"}, {call: "ReadDir", path: "/ln"}} {
		x.c = asRoot
		wantCode(t, tree, x, impl.ErrNone)
	}
	tree.Nodes[7].Body = "d/" + name12
	if got := impl.Create(tree, asRoot, "/ln/", 0o600, 0); got.Code != impl.OK || impl.Walk(got.Tree, asRoot, "/d/"+name12, false).Node != 10 {
		t.Errorf("a part of 12 bytes is a name: got %+v", got)
	}
}

// Each fault that the chapter names comes ahead of a last part that is too long, also that there is no time left.
func TestTooLongAPartBehindAllFaults(t *testing.T) {
	without2 := rung{"without 2 where it comes to", impl.ErrAccess, func(t *impl.Tree, x *asked) { t.Nodes[1].Acl = only(1) }}
	first := []rung{
		{"too long a part", impl.ErrRange, func(t *impl.Tree, x *asked) { t.Nodes[7].Body = "d/" + part13 }},
		{"MaxTime", impl.ErrFull, late},
	}
	crowded := rung{"MaxEntries", impl.ErrFull, func(t *impl.Tree, x *asked) { crowd(t) }}
	for _, call := range makers {
		x := asked{call: call, c: asOther, path: "/ln/"}
		if call == "Symlink" {
			x.body = "x"
		}
		taken := rung{"none free", impl.ErrFull, func(t *impl.Tree, x *asked) { t.Nodes = t.Nodes[:9] }}
		climb(t, yard(), x, slices.Concat(first, []rung{taken, crowded, without2})...)
	}
	climb(t, yard(), asked{call: "Link", c: asOther, old: "/f", path: "/ln/"}, slices.Concat(first, []rung{
		{"MaxLinks", impl.ErrFull, func(t *impl.Tree, x *asked) {
			t.Nodes[2].Names, t.Nodes[3].Links = []impl.Entry{at("1", 4), at("2", 4), at("3", 4), at("4", 4)}, 5
		}},
		crowded, without2,
		{"a directory", impl.ErrIsDir, func(t *impl.Tree, x *asked) { x.old = "/d" }},
		{"nothing", impl.ErrNone, func(t *impl.Tree, x *asked) { x.old = "/none" }},
	})...)
	climb(t, yard(), asked{call: "Rename", c: asOther, old: "/f", path: "/ln/"}, slices.Concat(first, []rung{
		crowded,
		{"sticky", impl.ErrOwner, func(t *impl.Tree, x *asked) { t.Nodes[0].Extra = impl.ExSticky }},
		without2,
		{"without 2 where it was", impl.ErrAccess, func(t *impl.Tree, x *asked) { t.Nodes[0].Acl = only(5) }},
		{"no old name", impl.ErrState, func(t *impl.Tree, x *asked) { x.old = "/d/." }},
		{"nothing", impl.ErrNone, func(t *impl.Tree, x *asked) { x.old = "/none" }},
	})...)
	tree := changed(yard(), func(t *impl.Tree) {
		t.Now, t.Nodes[7].Body = impl.MaxTime, "d/"+part13
		crowd(t)
	})
	wantCode(t, tree, asked{call: "Rename", c: asOther, old: "/d", path: "/ln/"}, impl.ErrRange)
	wantCode(t, tree, asked{call: "Rename", c: asOther, old: "/d/g", path: "/ln/"}, impl.ErrFull)
	tree.Now--
	wantCode(t, tree, asked{call: "Rename", c: asOther, old: "/d/g", path: "/ln/"}, impl.ErrRange)
}

func TestWhatIsMadeByHand(t *testing.T) {
	list := masked(named(5, 6, 8, 3), named(7, 1), 6)
	born := func(user int64, mask int64, other int64) impl.Acl {
		return impl.Acl{User: user, Group: 4, Other: other, Users: named(5, 6, 8, 3), Groups: named(7, 1), Masked: true, Mask: mask}
	}
	rows := []struct {
		what   string
		extra  int64
		shared bool
		given  impl.Acl
		mode   int64
		umask  int64
		dir    impl.Node
		file   impl.Node
	}{
		{"plain", 0, false, impl.Acl{}, 0o750, 0, impl.Node{Group: 8, Acl: impl.AclOf(0o750)}, impl.Node{Group: 8, Acl: impl.AclOf(0o750)}},
		{"umask", 0, false, impl.Acl{}, 0o777, 0o027, impl.Node{Group: 8, Acl: impl.AclOf(0o750)}, impl.Node{Group: 8, Acl: impl.AclOf(0o750)}},
		{"all of umask", 0, false, impl.Acl{}, 4095, 4095, impl.Node{Group: 8, Extra: 7}, impl.Node{Group: 8, Extra: 7}},
		{"nothing of umask", 0, false, impl.Acl{}, 4095, 0o7000, impl.Node{Group: 8, Extra: 7, Acl: impl.AclOf(0o777)}, impl.Node{Group: 8, Extra: 7, Acl: impl.AclOf(0o777)}},
		{"ExUser", impl.ExUser, false, impl.Acl{}, 0o644, 0, impl.Node{Group: 8, Acl: impl.AclOf(0o644)}, impl.Node{Group: 8, Acl: impl.AclOf(0o644)}},
		{"ExSticky", impl.ExSticky, false, impl.Acl{}, 0o644, 0, impl.Node{Group: 8, Acl: impl.AclOf(0o644)}, impl.Node{Group: 8, Acl: impl.AclOf(0o644)}},
		{"ExGroup", impl.ExGroup, false, impl.Acl{}, 0o644, 0, impl.Node{Group: 2, Extra: impl.ExGroup, Acl: impl.AclOf(0o644)}, impl.Node{Group: 2, Acl: impl.AclOf(0o644)}},
		{"ExGroup and more", 7, false, impl.Acl{}, 0o5644, 0, impl.Node{Group: 2, Extra: 7, Acl: impl.AclOf(0o644)}, impl.Node{Group: 2, Extra: 5, Acl: impl.AclOf(0o644)}},
		{"ExGroup by the mode", 0, false, impl.Acl{}, 0o2644, 0, impl.Node{Group: 8, Extra: 2, Acl: impl.AclOf(0o644)}, impl.Node{Group: 8, Extra: 2, Acl: impl.AclOf(0o644)}},
		{"ExGroup by both", 2, false, impl.Acl{}, 0o2644, 0, impl.Node{Group: 2, Extra: 2, Acl: impl.AclOf(0o644)}, impl.Node{Group: 2, Extra: 2, Acl: impl.AclOf(0o644)}},
		{"shared", 0, true, list, 0o777, 0, impl.Node{Group: 8, Acl: born(6, 6, 1), Shared: true, Default: list}, impl.Node{Group: 8, Acl: born(6, 6, 1)}},
		{"shared, less by the mode", 0, true, list, 0o1420, 0, impl.Node{Group: 8, Extra: 1, Acl: born(4, 2, 0), Shared: true, Default: list}, impl.Node{Group: 8, Extra: 1, Acl: born(4, 2, 0)}},
		{"shared, no umask", 2, true, list, 0o755, 4095, impl.Node{Group: 2, Extra: 2, Acl: born(6, 4, 1), Shared: true, Default: list}, impl.Node{Group: 2, Acl: born(6, 4, 1)}},
		{"shared, not masked", 0, true, impl.AclOf(0o640), 0o527, 0o777, impl.Node{Group: 8, Acl: impl.AclOf(0o400), Shared: true, Default: impl.AclOf(0o640)}, impl.Node{Group: 8, Acl: impl.AclOf(0o400)}},
		{"shared, of nothing", 0, true, impl.Acl{}, 0o777, 0, impl.Node{Group: 8, Shared: true}, impl.Node{Group: 8}},
	}
	for _, r := range rows {
		tree := changedNode(yard(), 2, func(n *impl.Node) { n.Extra, n.Shared, n.Default = r.extra, r.shared, copyOfAcl(r.given) })
		c := impl.Cred{Uid: 9, Gid: 8, Groups: []int64{4}}
		for _, call := range makers {
			made := r.dir
			x := asked{call: call, c: c, path: "/d/new", mode: r.mode, umask: r.umask}
			switch call {
			case "Mkdir":
				made.Kind, made.Up = impl.KdDir, 2
			case "Create":
				made = r.file
				made.Kind = impl.KdFile
			case "Symlink":
				x = asked{call: call, c: c, path: "/d/new", body: body40}
				made = impl.Node{Kind: impl.KdLink, Group: r.file.Group, Acl: impl.AclOf(0o777), Body: body40}
			}
			made.Owner, made.Links, made.Tick = 9, 1, 21
			want := changed(tree, func(t *impl.Tree) {
				t.Now, t.Nodes[1].Tick, t.Nodes[9] = 21, 21, made
				t.Nodes[1].Names = []impl.Entry{at("e", 3), at("g", 5), at("lo", 9), at("new", 10)}
			})
			wantTold(t, tree, x, told{tree: want, node: 10})
			if t.Failed() {
				t.Fatalf("%s, %s", r.what, call)
			}
		}
	}
}

// Each mode with some umasks, and each umask with some modes, of a directory with and without ExGroup.
func TestWhatIsMadeByEachMode(t *testing.T) {
	ask := func(mode int64, umask int64, extra int64) {
		tree := impl.TreeNew(0, 3, 0o777|extra<<9).Tree
		c := impl.Cred{Uid: 5, Gid: 6}
		dir, file := impl.Mkdir(tree, c, "/x", mode, umask), impl.Create(tree, c, "/x", mode, umask)
		if dir.Code != impl.OK || file.Code != impl.OK {
			t.Fatalf("%o, %o, %o: got %+v and %+v", mode, umask, extra, dir, file)
		}
		want := mode/512*512 + mode%512&^(umask%512)
		wantDir, group := want, int64(6)
		if extra == 2 {
			wantDir, group = want|0o2000, 3
		}
		if impl.NodeMode(dir.Tree, 2) != wantDir || impl.NodeMode(file.Tree, 2) != want || dir.Tree.Nodes[1].Group != group || file.Tree.Nodes[1].Group != group || dir.Tree.Nodes[1].Owner != 5 {
			t.Fatalf("%o, %o, %o: got %+v and %+v", mode, umask, extra, dir, file)
		}
	}
	for n := range int64(4096) {
		for _, extra := range []int64{0, 2} {
			for _, other := range []int64{0, 0o022, 0o777, 4095} {
				ask(n, other, extra)
				ask(other, n, extra)
			}
		}
	}
}

func TestChmodOfEachMode(t *testing.T) {
	list := masked(named(5, 6), named(7, 1), 2)
	tree := impl.Tree{Now: 3, Nodes: []impl.Node{dirNode(1, at("d", 2), at("f", 3), at("l", 4), at("m", 5)), dirNode(1), fileNode(1), linkNode(1, "f"), fileNode(1)}}
	for i := range tree.Nodes {
		tree.Nodes[i].Owner, tree.Nodes[i].Group, tree.Nodes[i].Acl = 5, 7, impl.AclOf(0o777)
	}
	tree.Nodes[4].Acl, tree.Nodes[2].Extra, tree.Nodes[1].Extra = list, 7, 7
	rows := []struct {
		c    impl.Cred
		path string
		node int64
		cut  bool
	}{
		{impl.Cred{Uid: 9, Gid: 9, Root: true}, "/f", 3, false}, {impl.Cred{Uid: 9, Gid: 9, Root: true}, "/d", 2, false}, {impl.Cred{Uid: 9, Gid: 9, Root: true}, "/l", 3, false}, {impl.Cred{Uid: 5, Gid: 7}, "/f", 3, false}, {impl.Cred{Uid: 5, Gid: 9, Groups: []int64{1, 7}}, "/f", 3, false},
		{impl.Cred{Uid: 5, Gid: 9}, "/f", 3, true}, {impl.Cred{Uid: 5, Gid: 9, Groups: []int64{5}}, "/l", 3, true}, {impl.Cred{Uid: 5, Gid: 9}, "/m", 5, true}, {impl.Cred{Uid: 5, Gid: 9}, "/d", 2, false}, {impl.Cred{Uid: 5, Gid: 7}, "/m", 5, false}, {impl.Cred{Uid: 5, Gid: 9}, "/", 1, false},
	}
	for mode := range int64(4096) {
		for _, r := range rows {
			want := changed(tree, func(t *impl.Tree) {
				n := &t.Nodes[r.node-1]
				t.Now, n.Tick, n.Extra = 4, 4, mode/512
				if r.cut {
					n.Extra = mode / 512 & 5
				}
				n.Acl.User, n.Acl.Other = mode/64%8, mode%8
				if r.node == 5 {
					n.Acl.Mask = mode / 8 % 8
				} else {
					n.Acl.Group = mode / 8 % 8
				}
			})
			wantTold(t, tree, asked{call: "Chmod", c: r.c, path: r.path, mode: mode}, told{tree: want})
		}
		wantTold(t, tree, asked{call: "Chmod", c: impl.Cred{Uid: 9, Gid: 7}, path: "/f", mode: mode}, told{code: impl.ErrOwner})
		if t.Failed() {
			t.Fatalf("at the mode %o", mode)
		}
	}
}

func TestChownByHand(t *testing.T) {
	owner, member := impl.Cred{Uid: 5, Gid: 9}, impl.Cred{Uid: 5, Gid: 9, Groups: []int64{3, 4}}
	rows := []struct {
		c     impl.Cred
		path  string
		node  int64
		uid   int64
		gid   int64
		code  int64
		extra int64
	}{
		{asRoot, "/f", 4, 9999, 0, impl.OK, 7}, {asRoot, "/d", 2, 0, 9999, impl.OK, 7}, {asRoot, "/lf", 5, 3, 4, impl.OK, 7}, {asRoot, "/f", 4, 5, 7, impl.OK, 7}, {impl.Cred{Root: true}, "/", 1, 3, 3, impl.OK, 7},
		{owner, "/f", 4, 5, 7, impl.OK, 1}, {owner, "/f", 4, 5, 9, impl.OK, 1}, {owner, "/f", 4, 5, 8, impl.ErrOwner, 0}, {owner, "/f", 4, 9, 7, impl.ErrOwner, 0}, {owner, "/f", 4, 9, 9, impl.ErrOwner, 0}, {owner, "/f", 4, 0, 7, impl.ErrOwner, 0},
		{member, "/f", 4, 5, 3, impl.OK, 1}, {member, "/f", 4, 5, 4, impl.OK, 1}, {member, "/f", 4, 5, 5, impl.ErrOwner, 0}, {member, "/lf", 5, 5, 4, impl.OK, 1}, {member, "/d/e", 3, 5, 4, impl.OK, 7}, {member, "/d/e", 3, 5, 2, impl.OK, 7},
		{member, "/d", 2, 1, 2, impl.ErrOwner, 0}, {member, "/d", 2, 5, 4, impl.ErrOwner, 0}, {asOther, "/f", 4, 5, 7, impl.ErrOwner, 0}, {asOther, "/f", 4, 9, 9, impl.ErrOwner, 0}, {impl.Cred{Uid: 9, Gid: 7}, "/f", 4, 5, 7, impl.ErrOwner, 0}, {asOwner, "/d", 2, 1, 9, impl.OK, 7}, {asOwner, "/d", 2, 1, 3, impl.ErrOwner, 0},
	}
	tree := changed(yard(), func(t *impl.Tree) {
		t.Nodes[2].Owner = 5
		for i := range t.Nodes[:9] {
			t.Nodes[i].Extra = 7
		}
	})
	for _, r := range rows {
		x := asked{call: "Chown", c: r.c, path: r.path, uid: r.uid, gid: r.gid}
		if r.code != impl.OK {
			wantCode(t, tree, x, r.code)
			continue
		}
		wantTold(t, tree, x, told{tree: changed(tree, func(t *impl.Tree) {
			n := &t.Nodes[r.node-1]
			t.Now, n.Tick, n.Owner, n.Group, n.Extra = 21, 21, r.uid, r.gid, r.extra
		})})
	}
}

func TestListsAreSetByHand(t *testing.T) {
	for i, list := range rightAcls() {
		for _, c := range []impl.Cred{asRoot, asOwner} {
			tree := changedNode(yard(), 2, func(n *impl.Node) { n.Extra, n.Shared, n.Default = 7, true, masked(named(1, 1), nil, 1) })
			set := changed(tree, func(t *impl.Tree) { t.Now, t.Nodes[1].Tick, t.Nodes[1].Acl = 21, 21, copyOfAcl(list) })
			handed := changed(tree, func(t *impl.Tree) { t.Now, t.Nodes[1].Tick, t.Nodes[1].Default = 21, 21, copyOfAcl(list) })
			none := changed(tree, func(t *impl.Tree) {
				t.Now, t.Nodes[1].Tick, t.Nodes[1].Shared, t.Nodes[1].Default = 21, 21, false, impl.Acl{}
			})
			wantTold(t, tree, asked{call: "SetAcl", c: c, path: "/d", list: list}, told{tree: set})
			wantTold(t, tree, asked{call: "SetDefault", c: c, path: "/d", list: list, shared: true}, told{tree: handed})
			wantTold(t, tree, asked{call: "SetDefault", c: c, path: "/d", list: list}, told{tree: none})
			wantTold(t, none, asked{call: "SetDefault", c: c, path: "/ld", list: list, shared: true}, told{tree: changed(handed, func(t *impl.Tree) { t.Now, t.Nodes[1].Tick = 22, 22 })})
		}
		for _, call := range []string{"SetAcl", "SetDefault"} {
			wantTold(t, yard(), asked{call: call, c: asNamed, path: "/d", list: list, shared: true}, told{code: impl.ErrOwner})
			wantTold(t, yard(), asked{call: call, c: asMember, path: "/d", list: list, shared: true}, told{code: impl.ErrOwner})
		}
		if t.Failed() {
			t.Fatalf("at the list %d", i)
		}
	}
}

// touchedBy are the nodes whose Tick is now the tree's Now.
func touchedBy(t impl.Tree) []int64 {
	var out []int64
	for i, n := range t.Nodes {
		if n.Kind != impl.KdFree && n.Tick == t.Now {
			out = append(out, int64(i)+1)
		}
	}
	return out
}

// Which nodes have the new Tick; all others keep the one they had.
func TestTimes(t *testing.T) {
	tree := changed(yard(), func(t *impl.Tree) {
		t.Nodes[2].Names, t.Nodes[4].Links = []impl.Entry{at("h", 5)}, 2
		t.Nodes[0].Names = append(t.Nodes[0].Names, at("z", 10))
		t.Nodes[9] = dirNode(1)
	})
	rows := []struct {
		x    asked
		want []int64
	}{
		{asked{call: "Mkdir", path: "/d/new"}, []int64{2, 11}}, {asked{call: "Create", path: "/d/e/new"}, []int64{3, 11}}, {asked{call: "Symlink", path: "/ld/new", body: "x"}, []int64{2, 11}}, {asked{call: "Link", old: "/f", path: "/d/new"}, []int64{2, 4}},
		{asked{call: "Link", old: "/d/g", path: "/d/new"}, []int64{2, 5}}, {asked{call: "Unlink", path: "/f"}, []int64{1}}, {asked{call: "Unlink", path: "/d/g"}, []int64{2, 5}}, {asked{call: "Unlink", path: "/d/e/h"}, []int64{3, 5}}, {asked{call: "Rmdir", path: "/z"}, []int64{1}},
		{asked{call: "Rename", old: "/f", path: "/new"}, []int64{1, 4}}, {asked{call: "Rename", old: "/f", path: "/d/new"}, []int64{1, 2, 4}}, {asked{call: "Rename", old: "/f", path: "/d/g"}, []int64{1, 2, 4, 5}}, {asked{call: "Rename", old: "/f", path: "/ln"}, []int64{1, 4}},
		{asked{call: "Rename", old: "/d/e", path: "/z"}, []int64{1, 2, 3}}, {asked{call: "Rename", old: "/d", path: "/z/d"}, []int64{1, 2, 10}}, {asked{call: "Chmod", path: "/lf"}, []int64{5}}, {asked{call: "Chown", path: "/d", uid: 1, gid: 2}, []int64{2}},
		{asked{call: "SetAcl", path: "/"}, []int64{1}}, {asked{call: "SetDefault", path: "/ld/e"}, []int64{3}},
	}
	for _, r := range rows {
		r.x.c = asRoot
		got := wantCode(t, tree, r.x, impl.OK)
		if got.tree.Now != 21 || !slices.Equal(touchedBy(got.tree), r.want) {
			t.Errorf("%s: Now is %d, and of these: %v, want %v", shownAsk(r.x), got.tree.Now, touchedBy(got.tree), r.want)
		}
		for i, n := range got.tree.Nodes {
			if n.Tick != 21 && n.Kind != impl.KdFree && n.Tick != tree.Nodes[i].Tick {
				t.Errorf("%s: the node %d has the Tick %d", shownAsk(r.x), i+1, n.Tick)
			}
		}
		// At the end of time nothing is changed any more, and one ahead of it once.
		tree := changed(tree, func(t *impl.Tree) { t.Now = impl.MaxTime })
		wantCode(t, tree, r.x, impl.ErrFull)
		tree.Now--
		if last := wantCode(t, tree, r.x, impl.OK); last.tree.Now != impl.MaxTime || !ownTreeRight(last.tree) {
			t.Errorf("%s: at last %+v", shownAsk(r.x), last)
		}
	}
}

// By each of two names to the other, and to itself: nothing is changed, not even the time, also where there is none left.
func TestRenameUponTheSameNode(t *testing.T) {
	tree := changed(yard(), func(t *impl.Tree) {
		t.Nodes[2].Names, t.Nodes[3].Links = []impl.Entry{at("f2", 4)}, 2
		t.Nodes[0].Names, t.Nodes[7].Links = append(t.Nodes[0].Names, at("m", 8)), 2
	})
	for _, now := range []int64{20, impl.MaxTime} {
		tree.Now = now
		for _, pair := range [][2]string{{"/f", "/f"}, {"/f", "/d/e/f2"}, {"/d/e/f2", "/f"}, {"/d/e/f2", "/ld/e/f2"}, {"/ln", "/m"}, {"/m", "/ln"}, {"/ln", "/ln"}, {"/d", "/d"}, {"/d/", "/d"}, {"/ld/", "/d/"}, {"/d/e", "/d/e/../e"}, {"/d/lo", "/d/lo"}} {
			for _, c := range []impl.Cred{asRoot, asOther} {
				wantTold(t, tree, asked{call: "Rename", c: c, old: pair[0], path: pair[1]}, told{tree: tree})
			}
		}
	}
}

func TestLimitsOfNames(t *testing.T) {
	all := changed(yard(), crowd)
	wantCode(t, all, asked{call: "Rename", c: asRoot, old: "/d/g1", path: "/d/g9"}, impl.OK)
	wantCode(t, all, asked{call: "Rename", c: asRoot, old: "/f", path: "/d/g1"}, impl.OK)
	wantCode(t, all, asked{call: "Rename", c: asRoot, old: "/f", path: "/d/g9"}, impl.ErrFull)
	wantCode(t, all, asked{call: "Rename", c: asRoot, old: "/d/g1", path: "/g9"}, impl.OK)
	wantCode(t, all, asked{call: "Rename", c: asRoot, old: "/d/g1", path: "/d/e/g9"}, impl.OK)
	// The sixth name comes in, the seventh does not; so do the last free nodes.
	tree := impl.TreeNew(0, 0, 0o777).Tree
	for i := range 6 {
		got := wantCode(t, tree, asked{call: makers[i%3], c: asOther, path: "/" + string(rune('f'-i)), mode: []int64{0o777, 0, 0}[i%3], body: []string{"", "", "x"}[i%3]}, impl.OK)
		if got.node != int64(i)+2 {
			t.Fatalf("the %d. is the node %d", i+1, got.node)
		}
		tree = got.tree
	}
	for _, call := range makers {
		x := asked{call: call, c: asOther, path: "/new"}
		if call == "Symlink" {
			x.body = "x"
		}
		wantCode(t, tree, x, impl.ErrFull)
		x.path = "/f/new"
		wantCode(t, tree, x, impl.OK)
		wantCode(t, changed(tree, func(t *impl.Tree) { t.Nodes = t.Nodes[:8] }), x, impl.OK)
		wantCode(t, changed(tree, func(t *impl.Tree) { t.Nodes = t.Nodes[:7] }), x, impl.ErrFull)
	}
	if names := impl.ReadDir(tree, asOther, "/").Names; !slices.Equal(names, []string{"a", "b", "c", "d", "e", "f"}) {
		t.Errorf("they are named in order: got %q", names)
	}
	// A node that was freed is the first one to be made again.
	gone := impl.Unlink(tree, asRoot, "/e").Tree
	if got := impl.Create(gone, asOther, "/z", 0, 0); got.Node != 3 {
		t.Errorf("the first free one is 3: got %d", got.Node)
	}
}

// wrongAsks are calls of which one argument is not right, for each of the fourteen; its path leads nowhere, too.
func wrongAsks() []asked {
	var out []asked
	for _, path := range []string{"/d/new", "/d", "/no/x", "", "x", "/" + part13} {
		for _, n := range append([]int64{4096, 8192}, farNumbers...) {
			for _, call := range []string{"Mkdir", "Create"} {
				out = append(out, asked{call: call, path: path, mode: n}, asked{call: call, path: path, umask: n}, asked{call: call, path: path, mode: n, umask: n})
			}
			out = append(out, asked{call: "Chmod", path: path, mode: n}, asked{call: "Access", path: path, want: n})
			if n > 9999 || n < 0 {
				out = append(out, asked{call: "Chown", path: path, uid: n}, asked{call: "Chown", path: path, gid: n}, asked{call: "Chown", path: path, uid: n, gid: n})
			}
		}
		out = append(out, asked{call: "Access", path: path, want: 8}, asked{call: "Access", path: path, want: 15})
		for _, body := range []string{"", " ", "a b", "\x7f", "\u00e4", body40 + "x", strings.Repeat("x", impl.MaxBytes)} {
			out = append(out, asked{call: "Symlink", path: path, body: body})
		}
		for _, list := range append(wrongAcls(), masked(make([]impl.Named, 100000), nil, 7)) {
			out = append(out, asked{call: "SetAcl", path: path, list: list}, asked{call: "SetDefault", path: path, list: list}, asked{call: "SetDefault", path: path, list: list, shared: true})
		}
	}
	return out
}

func TestAskedWithWhatIsNotRight(t *testing.T) {
	for _, x := range wrongAsks() {
		for _, c := range []impl.Cred{asRoot, asOther} {
			x.c = c
			wantTold(t, yard(), x, told{code: impl.ErrForm})
			y := x
			y.path = tooLong
			wantTold(t, yard(), y, told{code: impl.ErrSize})
		}
	}
}

// rightAsks are calls of all kinds that are carried out in the yard by root.
func rightAsks() []asked {
	list := masked(named(5, 6, 8, 3), named(7, 1), 6)
	return []asked{{call: "Mkdir", path: "/new", mode: 0o750}, {call: "Create", path: "/new", mode: 0o640}, {call: "Symlink", path: "/new", body: "x"}, {call: "Link", old: "/f", path: "/d/new"}, {call: "Unlink", path: "/f"}, {call: "Rmdir", path: "/d/e"},
		{call: "Rename", old: "/f", path: "/d/g"}, {call: "Rename", old: "/f", path: "/f"}, {call: "Chmod", path: "/d", mode: 0o700}, {call: "Chown", path: "/d", uid: 3, gid: 3}, {call: "SetAcl", path: "/d", list: list}, {call: "SetDefault", path: "/d", list: list, shared: true},
		{call: "SetDefault", path: "/d", list: list}, {call: "Access", path: "/d", want: 7}, {call: "Stat", path: "/d", follow: true}, {call: "Stat", path: "/ld"}, {call: "ReadDir", path: "/d"}}
}

// Trees and creds that are not right, with calls that are, with paths that lead nowhere, and with texts that are too long.
func TestAskedOfTreesAndCredsThatAreNotRight(t *testing.T) {
	refuse := func(tree impl.Tree, c impl.Cred, x asked) {
		x.c = c
		for _, path := range []string{x.path, "/no/x", "x", ""} {
			x.path = path
			wantTold(t, tree, x, told{code: impl.ErrForm})
		}
		for _, text := range []*string{&x.old, &x.path, &x.body} {
			had := *text
			if text == &x.path || text == &x.old && (x.call == "Link" || x.call == "Rename") || text == &x.body && x.call == "Symlink" {
				*text = tooLong
				wantTold(t, tree, x, told{code: impl.ErrSize})
			}
			*text = had
		}
		if t.Failed() {
			t.Fatalf("%s", shownAsk(x))
		}
	}
	broken := brokenTrees()
	for _, x := range rightAsks() {
		x.c = asRoot
		wantCode(t, yard(), x, impl.OK)
		for i, b := range broken {
			if i%5 == len(x.call)%5 || len(b.tree.Nodes) > 12 {
				refuse(b.tree, asRoot, x)
			}
		}
		for _, c := range wrongCreds() {
			refuse(yard(), c, x)
			c.Root = !c.Root
			refuse(yard(), c, x)
		}
		refuse(yard(), impl.Cred{Groups: make([]int64, 100000)}, x)
	}
}

// Whatever is given, a call answers, and as the second telling does.
func TestWhateverIsAsked(t *testing.T) {
	texts := []string{"", "/", "/d", "/d/", "/ld/", "/ln/", "/d/new", "new", "/\x00", "/\xff", strings.Repeat("/", 60), strings.Repeat("/", 61), strings.Repeat("/.", 30), "/d/" + part13, strings.Repeat("x", impl.MaxBytes), tooLong, strings.Repeat("/", 1<<20)}
	numbers := append([]int64{0, 1, 7, 8, 511, 4095, 4096, 9999}, farNumbers...)
	lists := []impl.Acl{{}, {User: 7, Group: 7, Other: 7}, masked(named(5, 6), nil, 6), {User: math.MinInt64}, {Mask: math.MaxInt64}, masked(make([]impl.Named, 1000), nil, 7)}
	creds := []impl.Cred{asRoot, asOwner, asNamed, asOther, {Uid: math.MinInt64, Root: true}, {Gid: math.MaxInt64}, {Groups: make([]int64, 1000)}}
	trees := []impl.Tree{yard(), lane(), full(), chain(true), impl.TreeNew(0, 0, 0).Tree, {Nodes: []impl.Node{dirNode(1)}}, {}, {Nodes: make([]impl.Node, 1000)}, {Nodes: make([]impl.Node, 12)}}
	s := steps(4)
	for i := range 30000 {
		x := asked{call: allAsk[i%14], c: creds[s.next(len(creds))], path: texts[s.next(len(texts))]}
		number := func() int64 { return numbers[s.next(len(numbers))] }
		switch x.call {
		case "Mkdir", "Create":
			x.mode, x.umask = number(), number()
		case "Symlink":
			x.body = texts[s.next(len(texts))]
		case "Link", "Rename":
			x.old = texts[s.next(len(texts))]
		case "Chmod":
			x.mode = number()
		case "Chown":
			x.uid, x.gid = number(), number()
		case "SetAcl", "SetDefault":
			x.list, x.shared = lists[s.next(len(lists))], x.call == "SetDefault" && s.next(2) == 0
		case "Access":
			x.want = number()
		}
		tree := trees[s.next(len(trees))]
		if got, want := ask(tree, x), ownAsk(tree, x); !sameTold(got, want) {
			t.Fatalf("%s: got %+v, want %+v", shownAsk(x), got, want)
		}
	}
}

// entangled is the yard with one list in the place of many, with room behind them, and one directory that hands on.
func entangled() (impl.Tree, []impl.Named) {
	list := roomy(named(5, 6, 8, 3))
	return changed(yard(), func(t *impl.Tree) {
		for i := range t.Nodes[:9] {
			n := &t.Nodes[i]
			n.Acl = impl.Acl{User: 7, Group: 7, Other: 7, Users: list, Groups: list, Masked: true, Mask: 7}
			if n.Kind == impl.KdDir {
				n.Shared, n.Default = true, n.Acl
			}
			n.Names = append(make([]impl.Entry, 0, 9), n.Names...)
		}
	}), list
}

// scribbles writes over each list of a tree, one a call, also where there is room behind it.
func scribbles(t *impl.Tree) []func() {
	var out []func()
	for i := range t.Nodes {
		n := &t.Nodes[i]
		for _, list := range [][]impl.Named{n.Acl.Users, n.Acl.Groups, n.Default.Users, n.Default.Groups} {
			out = append(out, func() { scribble(list) })
		}
		out = append(out, func() {
			names := n.Names[:cap(n.Names)]
			for k := range names {
				names[k] = at("no", 7)
			}
		})
	}
	return append(out, func() {
		nodes := t.Nodes[:cap(t.Nodes)]
		for i := range nodes {
			nodes[i].Owner, nodes[i].Names = 77, nil
		}
	})
}

func listsOf(t impl.Tree) [][]impl.Named {
	var out [][]impl.Named
	for _, n := range t.Nodes {
		out = append(out, n.Acl.Users, n.Acl.Groups, n.Default.Users, n.Default.Groups)
	}
	return out
}

// What is handed in is not changed; an answer shares no list with it, nor with another answer, nor two lists of one answer.
func TestAnswersShareNothing(t *testing.T) {
	for _, x := range rightAsks() {
		x.c = impl.Cred{Uid: 5, Gid: 7, Groups: []int64{2, 7}, Root: true}
		x.list = copyOfAcl(x.list)
		if len(x.list.Users) > 0 {
			x.list.Users = roomy(x.list.Users)
			x.list.Groups = x.list.Users
		}
		tree, list := entangled()
		before, handed := copyOfTree(tree), copyOfAcl(x.list)
		first, second := ask(tree, x), ask(tree, x)
		if first.code != impl.OK {
			t.Fatalf("%s: got %+v", shownAsk(x), first)
		}
		after, told := copyOfTree(first.tree), slices.Clone(first.names)
		wantSameTree(t, x.call+" of what was handed in", tree, before)
		for i := range scribbles(&first.tree) {
			got := ask(tree, x)
			scribbles(&got.tree)[i]()
			wantSameTree(t, x.call+", after its answer was written over", tree, before)
			if i%5 == 4 || i == len(scribbles(&first.tree))-1 {
				continue
			}
			for k, other := range listsOf(got.tree) {
				if k != i/5*4+i%5 && !slices.Equal(other, listsOf(after)[k]) {
					t.Errorf("%s: the lists %d and %d of an answer share memory", x.call, i, k)
				}
			}
		}
		for _, write := range scribbles(&first.tree) {
			write()
		}
		for i := range first.names {
			first.names[i] = "no"
		}
		scribble(list)
		for _, write := range scribbles(&tree) {
			write()
		}
		if !sameAcl(x.list, handed) || !slices.Equal(x.c.Groups, []int64{2, 7}) {
			t.Errorf("%s: the list or the cred is now %+v and %+v", x.call, x.list, x.c)
		}
		scribble(x.list.Users)
		wantSameTree(t, x.call+", the second answer", second.tree, after)
		if !slices.Equal(second.names, told) {
			t.Errorf("%s: the second answer is now %q", x.call, second.names)
		}
	}
}

// No text of an answer lies within one that was handed in.
func TestTextsOfAnswersAreNewMemory(t *testing.T) {
	path, body := strings.Clone("/d/"+name12), strings.Clone("body-of-a-link")
	made := impl.Symlink(yard(), asRoot, body, path).Tree
	if within(made.Nodes[9].Body, body) || within(made.Nodes[1].Names[3].Name, path) {
		t.Error("what is made lies within what was handed in")
	}
	again := impl.Chmod(made, asRoot, "/", 0o777).Tree
	names := impl.ReadDir(made, asRoot, "/d").Names
	for i, e := range made.Nodes[1].Names {
		// The library keeps texts of one byte in one place.
		if len(e.Name) > 1 && (within(again.Nodes[1].Names[i].Name, e.Name) || within(names[i], e.Name)) {
			t.Errorf("the name %q lies within the tree that was handed in", e.Name)
		}
	}
	if within(again.Nodes[9].Body, made.Nodes[9].Body) || within(impl.NodeOf(made, 10).Body, made.Nodes[9].Body) {
		t.Error("the body lies within the tree that was handed in")
	}
}
