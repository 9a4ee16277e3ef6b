package tests

import (
	"fmt"
	"reflect"
	"slices"
	"strings"
	"testing"

	"loop.example/g00622/impl"
)

// pathTo is the path of a name in a directory.
func pathTo(t impl.Tree, s spot) string {
	return strings.TrimSuffix(impl.PathOf(t, s.dir), "/") + "/" + s.name
}

// wantMade asks of what was made all that the chapter says of it, field by field, and that nothing else was changed.
func wantMade(t *testing.T, tree impl.Tree, x asked, dir int64, got told) {
	t.Helper()
	after, number := got.tree, got.node
	if !impl.TreeRight(after) || !ownTreeRight(after) || number != impl.FirstFree(tree) || after.Now != tree.Now+1 {
		t.Fatalf("%s in %+v: got %+v", shownAsk(x), tree, got)
	}
	if w := impl.Walk(after, asRoot, x.path, false); w != found(number, dir, x.path[strings.LastIndexByte(x.path, '/')+1:]) {
		t.Fatalf("%s in %+v: it is not there, but %+v", shownAsk(x), tree, w)
	}
	in, n := tree.Nodes[dir-1], after.Nodes[number-1]
	want := impl.Node{Kind: map[string]int64{"Mkdir": impl.KdDir, "Create": impl.KdFile, "Symlink": impl.KdLink}[x.call], Owner: x.c.Uid, Group: x.c.Gid, Extra: x.mode >> 9, Links: 1, Tick: tree.Now + 1, Body: x.body}
	if in.Extra&impl.ExGroup != 0 {
		want.Group = in.Group
	}
	want.Acl = impl.AclOf(x.mode &^ x.umask)
	if in.Shared {
		want.Acl = impl.AclBorn(in.Default, x.mode).Acl
	}
	if x.call == "Symlink" {
		want.Acl = impl.AclOf(511)
	}
	if x.call == "Mkdir" {
		want.Extra |= in.Extra & impl.ExGroup
		want.Shared, want.Default, want.Up = in.Shared, in.Default, dir
	}
	if !reflect.DeepEqual(copyOfNode(n), copyOfNode(want)) {
		t.Fatalf("%s in %+v: made %+v, want %+v", shownAsk(x), tree, n, want)
	}
	for i := range tree.Nodes {
		was, is := copyOfNode(tree.Nodes[i]), copyOfNode(after.Nodes[i])
		switch int64(i) + 1 {
		case number:
			continue
		case dir:
			if is.Tick != after.Now || len(is.Names) != len(was.Names)+1 {
				t.Fatalf("%s: the directory is %+v", shownAsk(x), is)
			}
			was.Tick, was.Names, is.Names = is.Tick, nil, nil
		}
		if !reflect.DeepEqual(was, is) {
			t.Fatalf("%s changed the node %d from %+v to %+v", shownAsk(x), i+1, was, is)
		}
	}
}

// Promise 17: in each directory of drawn trees, by everybody; taken away again the tree is the same.
func TestWhatIsMadeIsThereAndGoesAgain(t *testing.T) {
	s := steps(17)
	made := map[string]int{}
	for range 250 {
		tree := s.lived()
		tree.Now = min(tree.Now, impl.MaxTime-2)
		for i := range tree.Nodes {
			tree.Nodes[i].Tick = min(tree.Nodes[i].Tick, tree.Now)
		}
		for i, n := range tree.Nodes {
			where := spot{int64(i) + 1, []string{"new", "A", "zz", name12}[s.next(4)]}
			path := pathTo(tree, where)
			if n.Kind != impl.KdDir || len(path) > impl.MaxPath {
				continue
			}
			for k, call := range makers {
				for _, c := range askers() {
					x := s.asked(tree, call)
					x.c, x.path = c, path
					got := ask(tree, x)
					way := impl.Walk(tree, c, path, false).Code == impl.OK
					free := impl.FirstFree(tree) != 0 && len(n.Names) < impl.MaxEntries
					if may := way && free && impl.NodeMay(tree, c, where.dir, 3); may != (got.code == impl.OK) {
						t.Fatalf("%s in %+v: got %+v", shownAsk(x), tree, got)
					}
					if got.code != impl.OK {
						continue
					}
					made[call+credOwnText(c)]++
					wantMade(t, tree, x, where.dir, got)
					gone := ask(got.tree, asked{call: []string{"Rmdir", "Unlink", "Unlink"}[k], c: c, path: path})
					if gone.code != impl.OK || !impl.SameTree(tree, gone.tree) || gone.tree.Now != tree.Now+2 || gone.tree.Nodes[i].Tick != tree.Now+2 {
						t.Fatalf("%s in %+v, and taken away again: got %+v", shownAsk(x), tree, gone)
					}
				}
			}
		}
	}
	for _, call := range makers {
		for _, c := range askers() {
			if made[call+credOwnText(c)] < 20 {
				t.Errorf("%s by %s came %d times: too little was asked", call, credOwnText(c), made[call+credOwnText(c)])
			}
		}
	}
}

// Promise 18: up to MaxLinks names of a file and of a link, in several directories, taken away one by one, in each order.
func TestWhatLosesItsLastNameIsGone(t *testing.T) {
	places := []string{"/d/n", "/d/e/n", "/a", "/d/e/m"}
	orders := [][]int{{0, 1, 2, 3, 4}, {4, 3, 2, 1, 0}, {2, 0, 4, 1, 3}, {1, 4, 0, 3, 2}}
	for first, node := range map[string]int64{"/f": 4, "/lf": 7, "/d/g": 5, "/ln": 8} {
		tree := yard()
		names := append([]string{first}, places...)
		for i, path := range places {
			got := impl.Link(tree, asOther, names[i], path)
			if got.Code != impl.OK || got.Node != 0 || got.Tree.Nodes[node-1].Links != int64(i)+2 || impl.NamesOf(got.Tree, node) != int64(i)+2 || !ownTreeRight(got.Tree) {
				t.Fatalf("%q as %q: got %+v", names[i], path, got)
			}
			tree = got.Tree
		}
		wantTold(t, tree, asked{call: "Link", c: asOther, old: first, path: "/d/e/k"}, told{code: impl.ErrFull})
		for _, order := range orders {
			left := copyOfTree(tree)
			for i, k := range order {
				got := impl.Unlink(left, asOther, names[k])
				if got.Code != impl.OK || got.Node != 0 || !ownTreeRight(got.Tree) || impl.Walk(got.Tree, asRoot, names[k], false).Node != 0 {
					t.Fatalf("%q taken away: got %+v", names[k], got)
				}
				left = got.Tree
				n := left.Nodes[node-1]
				if i == 4 && !reflect.DeepEqual(copyOfNode(n), impl.Node{}) {
					t.Errorf("without a name there is still %+v", n)
				}
				was := copyOfNode(yard().Nodes[node-1])
				was.Links, was.Tick = int64(4-i), left.Now
				if i < 4 && !reflect.DeepEqual(copyOfNode(n), was) {
					t.Errorf("with %d names it is %+v, want %+v", 4-i, n, was)
				}
				for _, other := range order[i+1:] {
					if w := impl.Walk(left, asRoot, names[other], false); w.Node != node {
						t.Errorf("by %q it is not there any more: %+v", names[other], w)
					}
				}
			}
			if impl.FirstFree(left) != node || !impl.SameTree(left, without(yard(), node)) {
				t.Errorf("after the last name the tree is not what it was without it: %+v", left)
			}
		}
	}
}

// without is a tree in which neither a node nor its names are.
func without(t impl.Tree, number int64) impl.Tree {
	return changed(t, func(t *impl.Tree) {
		for i := range t.Nodes {
			t.Nodes[i].Names = slices.DeleteFunc(t.Nodes[i].Names, func(e impl.Entry) bool { return e.Node == number })
		}
		t.Nodes[number-1] = impl.Node{}
	})
}

// Promise 18: what another one is moved upon loses that name alone.
func TestWhatIsMovedUponLosesAName(t *testing.T) {
	tree := changed(yard(), func(t *impl.Tree) {
		t.Nodes[2].Names, t.Nodes[4].Links = []impl.Entry{at("h", 5)}, 2
	})
	one := impl.Rename(tree, asOther, "/f", "/d/g")
	if n := one.Tree.Nodes[4]; one.Code != impl.OK || n.Links != 1 || n.Kind != impl.KdFile || n.Tick != 21 || impl.Walk(one.Tree, asRoot, "/d/e/h", false).Node != 5 {
		t.Errorf("it has another name, and is %+v", n)
	}
	two := impl.Rename(one.Tree, asOther, "/d/g", "/d/e/h")
	if n := two.Tree.Nodes[4]; two.Code != impl.OK || !reflect.DeepEqual(copyOfNode(n), impl.Node{}) || impl.Walk(two.Tree, asRoot, "/d/e/h", false).Node != 4 || !ownTreeRight(two.Tree) {
		t.Errorf("it has no name left, and is %+v", n)
	}
}

// kinds are things of each kind to be moved, and to be moved upon, with and without further names, and with names in them.
func kindsToMove() impl.Tree {
	t := impl.Tree{Now: 30, Nodes: []impl.Node{
		dirNode(1, at("a", 2), at("b", 3)),
		dirNode(1, at("empty", 4), at("file", 6), at("full", 5), at("link", 8), at("many", 7)),
		dirNode(1, at("empty", 10), at("file", 11), at("full", 9), at("link", 12), at("many", 7)),
		dirNode(2),
		dirNode(2, at("in", 6)),
		fileNode(2),
		fileNode(2),
		linkNode(1, "many"),
		dirNode(3, at("in", 11)),
		dirNode(3),
		fileNode(2),
		linkNode(1, "../a"),
	}}
	for i := range t.Nodes {
		n := &t.Nodes[i]
		n.Tick = int64(i)
		if n.Kind == impl.KdDir {
			n.Acl = impl.AclOf(0o777)
		}
	}
	t.Nodes[4].Shared, t.Nodes[4].Default, t.Nodes[5].Extra = true, masked(named(5, 6), nil, 6), 7
	return t
}

// wantMoved asks of a thing that was moved: it is the same node, found by its new name, and by its old one no more; it is
// what it was, but for its Tick, and of a directory Up; what was there has one name less.
func wantMoved(t *testing.T, tree impl.Tree, c impl.Cred, from spot, to spot) {
	t.Helper()
	old, path := pathTo(tree, from), pathTo(tree, to)
	node, there := ownNamed(tree.Nodes[from.dir-1], from.name), ownNamed(tree.Nodes[to.dir-1], to.name)
	got := impl.Rename(tree, c, old, path)
	if got.Code != impl.OK || got.Node != 0 || got.Tree.Now != tree.Now+1 || !ownTreeRight(got.Tree) || !impl.TreeRight(got.Tree) {
		t.Fatalf("%q to %q in %+v: got %+v", old, path, tree, got)
	}
	if w := impl.Walk(got.Tree, asRoot, path, false); len(path) <= impl.MaxPath && (w.Node != node || w.Name != to.name) {
		t.Errorf("%q to %q: by its new name there is %+v", old, path, w)
	}
	if w := impl.Walk(got.Tree, asRoot, old, false); w.Code == impl.OK && w.Node != 0 {
		t.Errorf("%q to %q: by its old name there is %+v", old, path, w)
	}
	for i := range tree.Nodes {
		was, is, number := copyOfNode(tree.Nodes[i]), copyOfNode(got.Tree.Nodes[i]), int64(i)+1
		if number == from.dir || number == to.dir || number == node {
			was.Tick = tree.Now + 1
		}
		if number == from.dir || number == to.dir {
			was.Names = is.Names
		}
		if number == node && was.Kind == impl.KdDir {
			was.Up = to.dir
		}
		if number == there {
			was.Links, was.Tick = was.Links-1, tree.Now+1
			if was.Links == 0 {
				was = impl.Node{}
			}
		}
		if !reflect.DeepEqual(was, is) {
			t.Errorf("%q to %q: the node %d is %+v, want %+v", old, path, number, is, was)
		}
	}
	wantNamesMoved(t, tree, got.Tree, from, to)
}

// wantNamesMoved asks that no other name came or went.
func wantNamesMoved(t *testing.T, before impl.Tree, after impl.Tree, from spot, to spot) {
	t.Helper()
	names := apart(before).names
	names[to] = names[from]
	if from != to {
		delete(names, from)
	}
	if got := apart(after).names; !reflect.DeepEqual(got, names) {
		t.Errorf("%v to %v: the names are %v, want %v", from, to, got, names)
	}
}

// Promise 19: things of each kind to a new name, to another directory, and upon things of each kind.
func TestWhatIsMovedIsWhatItWas(t *testing.T) {
	tree := kindsToMove()
	if !impl.TreeRight(tree) {
		t.Fatal("this tree is right")
	}
	things := []string{"empty", "file", "full", "link", "many"}
	isDir := func(name string) bool { return name == "empty" || name == "full" }
	for _, c := range []impl.Cred{asRoot, asOther} {
		for _, name := range things {
			from := spot{2, name}
			for _, to := range []spot{{2, "new"}, {2, "0"}, {3, "new"}, {3, name + "2"}, {10, name}, {9, name12}} {
				wantMoved(t, tree, c, from, to)
			}
			for _, upon := range things {
				to := spot{3, upon}
				code := int64(impl.OK)
				switch {
				case name == "many" && upon == "many":
					wantTold(t, tree, asked{call: "Rename", c: c, old: "/a/many", path: "/b/many"}, told{tree: tree})
					continue
				case isDir(name) && !isDir(upon):
					code = impl.ErrNotDir
				case !isDir(name) && isDir(upon):
					code = impl.ErrIsDir
				case upon == "full":
					code = impl.ErrEmpty
				}
				if code != impl.OK {
					wantCode(t, tree, asked{call: "Rename", c: c, old: pathTo(tree, from), path: pathTo(tree, to)}, code)
					continue
				}
				wantMoved(t, tree, c, from, to)
				if upon != name {
					wantMoved(t, tree, c, spot{3, name}, to)
				}
			}
			// Upon itself.
			wantTold(t, tree, asked{call: "Rename", c: c, old: pathTo(tree, from), path: pathTo(tree, from)}, told{tree: tree})
		}
	}
}

// Promise 19: a directory does not come into itself, nor into what is within it, however that is called.
func TestNothingIsMovedIntoItself(t *testing.T) {
	tree := impl.Tree{Nodes: []impl.Node{dirNode(1, at("a", 2), at("k", 6), at("l", 7)), dirNode(1, at("b", 3), at("bb", 8)), dirNode(2, at("c", 4)), dirNode(3, at("f", 5)), fileNode(1), dirNode(1), linkNode(1, "a/b/c"), dirNode(2)}}
	inside := map[string][]string{
		"/a":     {"/a/x", "/a/b/x", "/a/b/c/x", "/l/x", "/k/../a/x", "/a/b/../x", "/a/b/c/f", "/a/b", "/a/b/c", "/a/x/", "/a/bb", "/a/bb/x"},
		"/a/b":   {"/a/b/x", "/a/b/c", "/a/b/c/x", "/l/x", "/l/f", "/a/b/c/../x"},
		"/a/b/c": {"/a/b/c/x", "/l/x", "/a/b/c/f", "/l/f"},
		"/l/":    {"/a/b/c/x", "/l/x", "/l/f"},
	}
	for old, paths := range inside {
		for _, path := range paths {
			for _, c := range []impl.Cred{asRoot, asOwner} {
				wantTold(t, tree, asked{call: "Rename", c: c, old: old, path: path}, told{code: impl.ErrRange})
			}
		}
	}
	for _, pair := range [][2]spot{{{2, "b"}, {1, "x"}}, {{2, "b"}, {6, "x"}}, {{2, "b"}, {1, "k"}}, {{3, "c"}, {2, "x"}}, {{3, "c"}, {1, "k"}}, {{1, "k"}, {4, "x"}}, {{1, "a"}, {6, "x"}}, {{1, "a"}, {1, "k"}}, {{2, "b"}, {8, "x"}}, {{2, "b"}, {2, "bb"}}, {{2, "bb"}, {4, "x"}}} {
		wantMoved(t, tree, asRoot, pair[0], pair[1])
		wantMoved(t, tree, asOwner, pair[0], pair[1])
	}
	for path, code := range map[string]int64{"/a": impl.ErrEmpty, "/a/b/..": impl.ErrState, "/a/b/c/f/x": impl.ErrNotDir} {
		wantCode(t, tree, asked{call: "Rename", c: asOwner, old: "/a/b", path: path}, code)
	}
}

// Promise 19: in drawn trees, each name to drawn places; there and back again the tree is the same.
func TestMovedThereAndBack(t *testing.T) {
	s := steps(19)
	moved := map[int64]int{}
	for range 500 {
		tree := s.lived()
		tree.Now = 2000
		for i := range tree.Nodes {
			tree.Nodes[i].Tick = min(tree.Nodes[i].Tick, 2000)
		}
		for _, from := range spots(tree) {
			to := spot{int64(s.next(len(tree.Nodes))) + 1, append([]string{"new", "A"}, grownNames...)[s.next(8)]}
			node := ownNamed(tree.Nodes[from.dir-1], from.name)
			if tree.Nodes[to.dir-1].Kind != impl.KdDir || ownNamed(tree.Nodes[to.dir-1], to.name) == node {
				continue
			}
			there := ownNamed(tree.Nodes[to.dir-1], to.name)
			for _, c := range askers() {
				got := impl.Rename(tree, c, pathTo(tree, from), pathTo(tree, to))
				if got.Code != impl.OK {
					continue
				}
				wantMoved(t, tree, c, from, to)
				moved[tree.Nodes[node-1].Kind]++
				if there == 0 {
					back := impl.Rename(got.Tree, asRoot, pathTo(got.Tree, to), pathTo(got.Tree, from))
					if back.Code != impl.OK || !impl.SameTree(back.Tree, tree) {
						t.Fatalf("%v to %v and back in %+v: got %+v", from, to, tree, back)
					}
				}
			}
			if t.Failed() {
				t.FailNow()
			}
		}
	}
	for _, kind := range []int64{impl.KdDir, impl.KdFile, impl.KdLink} {
		if moved[kind] < 50 {
			t.Errorf("the kind %d was moved %d times: too little was asked", kind, moved[kind])
		}
	}
}

// guarded is what nobody but its owner, and root, may change.
type guarded struct {
	owner, group, mode int64
	list, handed       string
	shared             bool
}

func guardOf(t impl.Tree, number int64) guarded {
	n := t.Nodes[number-1]
	return guarded{n.Owner, n.Group, impl.NodeMode(t, number), aclOwnText(n.Acl), aclOwnText(n.Default), n.Shared}
}

// Promise 20: whatever somebody asks who is not root, what is not theirs, and is there still, is as it was.
func TestNobodyChangesWhatIsNotTheirs(t *testing.T) {
	s := steps(20)
	strange, own := map[string]int{}, map[string]int{}
	for range 4000 {
		tree := s.lived()
		before := copyOfTree(tree)
		for _, call := range allAsk {
			x := s.asked(tree, call)
			if x.c.Root {
				x.c = askers()[1+s.next(7)]
			}
			if call == "Chown" && s.next(2) == 0 {
				x.uid = x.c.Uid
			}
			got := ask(tree, x)
			if got.code != impl.OK || slices.Contains(lookers, call) {
				continue
			}
			for i, n := range tree.Nodes {
				if n.Kind == impl.KdFree || got.tree.Nodes[i].Kind == impl.KdFree {
					continue
				}
				was, is := guardOf(tree, int64(i)+1), guardOf(got.tree, int64(i)+1)
				if n.Owner != x.c.Uid {
					strange[call]++
				} else if was != is {
					own[call]++
				}
				if n.Owner != x.c.Uid && was != is {
					t.Fatalf("%s in %+v: the node %d was %+v, and is %+v", shownAsk(x), tree, i+1, was, is)
				}
				if is.owner != was.owner || n.Kind != got.tree.Nodes[i].Kind {
					t.Fatalf("%s in %+v: the node %d is given away: %+v", shownAsk(x), tree, i+1, is)
				}
			}
		}
		if !reflect.DeepEqual(copyOfTree(tree), before) {
			t.Fatalf("what was handed in is now %+v, and was %+v", tree, before)
		}
	}
	for _, call := range changer {
		if strange[call] < 80 || slices.Contains(setters, call) != (own[call] > 20) {
			t.Errorf("%s: %d that are not theirs stayed, %d that are theirs were changed: too little was asked, or too much", call, strange[call], own[call])
		}
	}
}

// Promise 20: by hand, each of what may be set, of what is not theirs, however open it is; by root it may.
func TestWhatIsNotTheirsByHand(t *testing.T) {
	open := changed(yard(), func(t *impl.Tree) {
		for i := range t.Nodes[:9] {
			t.Nodes[i].Acl = masked(named(5, 7, 9, 7), named(2, 7, 7, 7), 7)
			t.Nodes[i].Owner, t.Nodes[i].Group = 3, 2
		}
	})
	for _, c := range walkers() {
		for _, path := range []string{"/", "/d", "/d/e", "/ld", "/f", "/lf", "/d/g"} {
			for _, x := range []asked{{call: "Chmod", mode: 0o700}, {call: "Chown", uid: 3, gid: 2}, {call: "Chown", uid: c.Uid, gid: c.Gid}, {call: "SetAcl"}, {call: "SetDefault", shared: true}} {
				x.c, x.path = c, path
				code := int64(impl.ErrOwner)
				if c.Root {
					code = impl.OK
				}
				if c.Root && x.call == "SetDefault" && slices.Contains([]string{"/f", "/lf", "/d/g"}, path) {
					code = impl.ErrNotDir
				}
				wantCode(t, open, x, code)
			}
		}
		// To name and to move what is not theirs is let, and changes none of it.
		for _, x := range []asked{{call: "Link", old: "/f", path: "/d/e/x"}, {call: "Rename", old: "/f", path: "/d/e/x"}, {call: "Rename", old: "/d/g", path: "/f"}, {call: "Rename", old: "/d", path: "/x"}} {
			x.c = c
			got := ask(changedNode(open, 2, func(n *impl.Node) { n.Acl.Other = 7 }), x)
			for i := range open.Nodes[:9] {
				if got.code == impl.OK && got.tree.Nodes[i].Kind != impl.KdFree && (got.tree.Nodes[i].Owner != 3 || got.tree.Nodes[i].Group != 2) {
					t.Errorf("%s: the node %d is %+v", shownAsk(x), i+1, got.tree.Nodes[i])
				}
			}
		}
	}
}

// Promise 22: Access is what NodeMay says of where the way ends, Stat what the node is, ReadDir its names.
func TestWhoMayIsToldSo(t *testing.T) {
	s := steps(22)
	seen := map[string]int{}
	for range 150 {
		tree := s.lived()
		for range 5 {
			path := s.toward(tree)
			for _, c := range askers() {
				w := impl.Walk(tree, c, path, true)
				missing := w.Code
				if w.Code == impl.OK && w.Node == 0 {
					missing = impl.ErrNone
				}
				for want := int64(-1); want <= 8; want++ {
					code := missing
					switch {
					case want < 0 || want > 7:
						code = impl.ErrForm
					case code == impl.OK && !impl.NodeMay(tree, c, w.Node, want):
						code = impl.ErrAccess
					}
					if got := impl.Access(tree, c, path, want); got != code || (got == impl.OK) != impl.Reach(tree, c, path, want) {
						t.Fatalf("%s, %q, %d in %+v: got %d, want %d", credOwnText(c), path, want, tree, got, code)
					}
					seen[fmt.Sprint("Access ", code)]++
				}
				wantStat(t, tree, c, path, seen)
				names, code := []string(nil), missing
				if code == impl.OK && tree.Nodes[w.Node-1].Kind != impl.KdDir {
					code = impl.ErrNotDir
				}
				if code == impl.OK && !impl.NodeMay(tree, c, w.Node, 4) {
					code = impl.ErrAccess
				}
				if code == impl.OK {
					for _, e := range tree.Nodes[w.Node-1].Names {
						names = append(names, e.Name)
					}
				}
				if got := impl.ReadDir(tree, c, path); got.Code != code || !slices.Equal(got.Names, names) {
					t.Fatalf("%s, %q in %+v: got %+v, want %d and %q", credOwnText(c), path, tree, got, code, names)
				}
				seen[fmt.Sprint("ReadDir ", code)]++
			}
		}
	}
	for _, what := range []string{"Access 0", "Access 6", "Access 11", "Access 12", "Stat 0", "Stat 6", "Stat 11", "Stat 12", "ReadDir 0", "ReadDir 6", "ReadDir 11", "ReadDir 12"} {
		if seen[what] < 50 {
			t.Errorf("%s came %d times: too little was asked", what, seen[what])
		}
	}
}

func wantStat(t *testing.T, tree impl.Tree, c impl.Cred, path string, seen map[string]int) {
	t.Helper()
	for _, follow := range []bool{false, true} {
		w := impl.Walk(tree, c, path, follow)
		n := impl.NodeOf(tree, w.Node)
		want := impl.StatOut{Node: w.Node, Kind: n.Kind, Mode: impl.NodeMode(tree, w.Node), Owner: n.Owner, Group: n.Group, Links: n.Links, Code: w.Code}
		if w.Code == impl.OK && w.Node == 0 {
			want.Code = impl.ErrNone
		}
		if got := impl.Stat(tree, c, path, follow); got != want {
			t.Fatalf("%s, %q (%v) in %+v: got %+v, want %+v", credOwnText(c), path, follow, tree, got, want)
		}
		seen[fmt.Sprint("Stat ", want.Code)]++
	}
}

// Promise 22 by hand: nothing is asked of a file to stat it but the way; root runs what somebody may run.
func TestWhatIsToldByHand(t *testing.T) {
	tree := changed(yard(), func(t *impl.Tree) {
		t.Nodes[3].Acl, t.Nodes[3].Extra = impl.Acl{}, 5
		t.Nodes[4].Acl = masked(named(9, 6), nil, 4)
		t.Nodes[2].Acl = only(4)
	})
	for _, c := range walkers() {
		wantTold(t, tree, asked{call: "Stat", c: c, path: "/f", follow: true}, told{stat: impl.StatOut{Node: 4, Kind: impl.KdFile, Mode: 0o5000, Owner: 5, Group: 7, Links: 1}})
		wantTold(t, tree, asked{call: "Stat", c: c, path: "/lf", follow: true}, told{stat: impl.StatOut{Node: 5, Kind: impl.KdFile, Mode: 0o641, Owner: 5, Group: 7, Links: 1}})
		wantTold(t, tree, asked{call: "Stat", c: c, path: "/"}, told{stat: impl.StatOut{Node: 1, Kind: impl.KdDir, Mode: 0o777, Owner: 1, Group: 2, Links: 1}})
		wantTold(t, tree, asked{call: "ReadDir", c: c, path: "/"}, told{names: []string{"d", "f", "ld", "lf", "ln"}})
		wantTold(t, tree, asked{call: "ReadDir", c: c, path: "/ld"}, told{names: []string{"e", "g", "lo"}})
		wantTold(t, tree, asked{call: "ReadDir", c: c, path: "/d/e/"}, told{})
	}
	rows := []struct {
		c    impl.Cred
		path string
		may  string
	}{
		{asRoot, "/f", "0246"}, {asOther, "/f", "0"}, {asNamed, "/f", "0"}, {asRoot, "/d/g", "01234567"}, {asOther, "/lf", "04"}, {asNamed, "/lf", "0246"}, {asOwner, "/lf", "01"}, {asOther, "/d/e", "04"}, {asRoot, "/d/e", "01234567"}, {asOwner, "/ld", "01234567"},
	}
	for _, r := range rows {
		for want := range int64(8) {
			code := int64(impl.ErrAccess)
			if strings.Contains(r.may, fmt.Sprint(want)) {
				code = impl.OK
			}
			wantCode(t, tree, asked{call: "Access", c: r.c, path: r.path, want: want}, code)
		}
	}
}
