package tests

import (
	"fmt"
	"reflect"
	"slices"
	"strings"
	"testing"

	"loop.example/g00622/impl"
)

// asked is one of the fourteen calls, with all that any of them takes; what a call does not take stays zero.
type asked struct {
	call   string
	c      impl.Cred
	old    string
	path   string
	body   string
	mode   int64
	umask  int64
	uid    int64
	gid    int64
	want   int64
	list   impl.Acl
	shared bool
	follow bool
}

// told is what a call answers, whichever it was.
type told struct {
	tree  impl.Tree
	node  int64
	stat  impl.StatOut
	names []string
	code  int64
}

var (
	makers  = []string{"Mkdir", "Create", "Symlink"}
	setters = []string{"Chmod", "Chown", "SetAcl", "SetDefault"}
	lookers = []string{"Access", "Stat", "ReadDir"}
	changer = slices.Concat(makers, []string{"Link", "Unlink", "Rmdir", "Rename"}, setters)
	allAsk  = slices.Concat(changer, lookers)
)

func ask(t impl.Tree, x asked) told {
	tree := func(o impl.TreeOut) told { return told{tree: o.Tree, node: o.Node, code: o.Code} }
	switch x.call {
	case "Mkdir":
		return tree(impl.Mkdir(t, x.c, x.path, x.mode, x.umask))
	case "Create":
		return tree(impl.Create(t, x.c, x.path, x.mode, x.umask))
	case "Symlink":
		return tree(impl.Symlink(t, x.c, x.body, x.path))
	case "Link":
		return tree(impl.Link(t, x.c, x.old, x.path))
	case "Unlink":
		return tree(impl.Unlink(t, x.c, x.path))
	case "Rmdir":
		return tree(impl.Rmdir(t, x.c, x.path))
	case "Rename":
		return tree(impl.Rename(t, x.c, x.old, x.path))
	case "Chmod":
		return tree(impl.Chmod(t, x.c, x.path, x.mode))
	case "Chown":
		return tree(impl.Chown(t, x.c, x.path, x.uid, x.gid))
	case "SetAcl":
		return tree(impl.SetAcl(t, x.c, x.path, x.list))
	case "SetDefault":
		return tree(impl.SetDefault(t, x.c, x.path, x.shared, x.list))
	case "Access":
		return told{code: impl.Access(t, x.c, x.path, x.want)}
	case "Stat":
		o := impl.Stat(t, x.c, x.path, x.follow)
		code := o.Code
		o.Code = 0
		return told{stat: o, code: code}
	case "ReadDir":
		o := impl.ReadDir(t, x.c, x.path)
		return told{names: o.Names, code: o.Code}
	}
	panic("no such call: " + x.call)
}

// shownAsk is short also of texts that are very long.
func shownAsk(x asked) string {
	cut := func(text string) string { return text[:min(len(text), 70)] }
	x.old, x.path, x.body = cut(x.old), cut(x.path), cut(x.body)
	if len(x.list.Users)+len(x.list.Groups) > 20 {
		x.list.Users, x.list.Groups = nil, nil
	}
	x.c.Groups = x.c.Groups[:min(len(x.c.Groups), 9)]
	return fmt.Sprintf("%+v", x)
}

func sameTold(a told, b told) bool {
	trees := reflect.DeepEqual(copyOfTree(a.tree), copyOfTree(b.tree))
	return trees && a.node == b.node && a.stat == b.stat && slices.Equal(a.names, b.names) && a.code == b.code
}

func wantTold(t *testing.T, tree impl.Tree, x asked, want told) {
	t.Helper()
	if got := ask(tree, x); !sameTold(got, want) {
		t.Errorf("%s in %+v: got %+v, want %+v", shownAsk(x), tree, got, want)
	}
}

// wantCode asks for the code, and for the zero answer beside another one than OK; both tellings are asked.
func wantCode(t *testing.T, tree impl.Tree, x asked, code int64) told {
	t.Helper()
	got, second := ask(tree, x), ownAsk(tree, x)
	if got.code != code || code != impl.OK && !sameTold(got, told{code: code}) {
		t.Errorf("%s: got %+v, want the code %d", shownAsk(x), got, code)
	}
	if second.code != code {
		t.Errorf("the second telling of %s: the code %d, want %d", shownAsk(x), second.code, code)
	}
	return got
}

// spot is where a name stands.
type spot struct {
	dir  int64
	name string
}

// draft is a tree taken apart: which names there are stands in one map; who has how many links, what is free, and what is
// above what, are told from that when it is put together.
type draft struct {
	nodes []impl.Node
	names map[spot]int64
	now   int64
}

func apart(t impl.Tree) draft {
	d := draft{nodes: copyOfTree(t).Nodes, names: map[spot]int64{}, now: t.Now}
	for i, n := range t.Nodes {
		for _, e := range n.Names {
			d.names[spot{int64(i) + 1, e.Name}] = e.Node
		}
	}
	return d
}

func (d draft) together(touched ...int64) impl.Tree {
	links, ups := map[int64]int64{1: 1}, map[int64]int64{1: 1}
	for i := range d.nodes {
		d.nodes[i].Names = nil
	}
	for s, number := range d.names {
		links[number]++
		ups[number] = s.dir
		dir := &d.nodes[s.dir-1]
		dir.Names = append(dir.Names, at(s.name, number))
	}
	for i := range d.nodes {
		n, number := &d.nodes[i], int64(i)+1
		slices.SortFunc(n.Names, func(a impl.Entry, b impl.Entry) int { return strings.Compare(a.Name, b.Name) })
		n.Links = links[number]
		if n.Kind == impl.KdDir {
			n.Up = ups[number]
		}
		if slices.Contains(touched, number) {
			n.Tick = d.now + 1
		}
		if n.Links == 0 {
			*n = impl.Node{}
		}
	}
	return impl.Tree{Nodes: d.nodes, Now: d.now + 1}
}

func ownFormRight(x asked) bool {
	inside := func(n int64, most int64) bool { return n >= 0 && n <= most }
	numbers := inside(x.mode, 4095) && inside(x.umask, 4095) && inside(x.uid, 9999) && inside(x.gid, 9999) && inside(x.want, 7)
	return numbers && impl.AclRight(x.list) && (x.call != "Symlink" || ownVisible(x.body, 40, ""))
}

// ownAsk tells anew, apart from the program, what a call answers.
func ownAsk(t impl.Tree, x asked) told {
	if len(x.old) > 8000 || len(x.path) > 8000 || len(x.body) > 8000 {
		return told{code: impl.ErrSize}
	}
	if !ownTreeRight(t) || !ownCredRight(x.c) || !ownFormRight(x) {
		return told{code: impl.ErrForm}
	}
	var out told
	switch {
	case slices.Contains(lookers, x.call):
		return ownLooked(t, x)
	case slices.Contains(setters, x.call):
		out = ownSet(t, x)
	case slices.Contains(makers, x.call):
		out = ownMade(t, x)
	case x.call == "Link":
		out = ownLinked(t, x)
	case x.call == "Rename":
		out = ownRenamed(t, x)
	default:
		out = ownTaken(t, x)
	}
	if out.tree.Now > 1000000 {
		return told{code: impl.ErrFull}
	}
	// What stands at the end of a link's body may be longer than an entry's name: refused behind all that is named.
	if slices.ContainsFunc(spots(out.tree), func(s spot) bool { return len(s.name) > 12 }) {
		return told{code: impl.ErrRange}
	}
	return out
}

func ownLooked(t impl.Tree, x asked) told {
	w := ownWalk(t, x.c, x.path, x.call != "Stat" || x.follow)
	if w.Code != impl.OK {
		return told{code: w.Code}
	}
	if w.Node == 0 {
		return told{code: impl.ErrNone}
	}
	n := t.Nodes[w.Node-1]
	switch {
	case x.call == "Access" && !ownMay(n, x.c, x.want):
		return told{code: impl.ErrAccess}
	case x.call == "ReadDir" && n.Kind != impl.KdDir:
		return told{code: impl.ErrNotDir}
	case x.call == "ReadDir" && !ownMay(n, x.c, 4):
		return told{code: impl.ErrAccess}
	case x.call == "ReadDir":
		var names []string
		for _, e := range n.Names {
			names = append(names, e.Name)
		}
		return told{names: names}
	case x.call == "Stat":
		mode := n.Extra*512 + n.Acl.User*64 + ownGroupClass(n.Acl)*8 + n.Acl.Other
		return told{stat: impl.StatOut{Node: w.Node, Kind: n.Kind, Mode: mode, Owner: n.Owner, Group: n.Group, Links: n.Links}}
	}
	return told{}
}

// ownThree sets the three places of a list by what becomes of each.
func ownThree(a impl.Acl, mode int64, becomes func(had int64, of int64) int64) impl.Acl {
	a = copyOfAcl(a)
	places := []*int64{&a.Other, &a.Group, &a.User}
	if a.Masked {
		places[1] = &a.Mask
	}
	for i, place := range places {
		*place = becomes(*place, mode>>(3*i)&7)
	}
	return a
}

func ownMember(c impl.Cred, gid int64) bool {
	return slices.Contains(append([]int64{c.Gid}, c.Groups...), gid)
}

func ownSet(t impl.Tree, x asked) told {
	w := ownWalk(t, x.c, x.path, true)
	if w.Code != impl.OK {
		return told{code: w.Code}
	}
	if w.Node == 0 {
		return told{code: impl.ErrNone}
	}
	d := apart(t)
	n := &d.nodes[w.Node-1]
	plain := !x.c.Root && n.Kind != impl.KdDir
	strange := x.call == "Chown" && (x.uid != n.Owner || x.gid != n.Group && !ownMember(x.c, x.gid))
	if !x.c.Root && (n.Owner != x.c.Uid || strange) {
		return told{code: impl.ErrOwner}
	}
	switch x.call {
	case "Chmod":
		n.Acl = ownThree(n.Acl, x.mode, func(had int64, of int64) int64 { return of })
		n.Extra = x.mode / 512
		if plain && !ownMember(x.c, n.Group) && n.Extra/2%2 == 1 {
			n.Extra -= 2
		}
	case "Chown":
		n.Owner, n.Group = x.uid, x.gid
		if plain {
			n.Extra %= 2
		}
	case "SetAcl":
		n.Acl = copyOfAcl(x.list)
	case "SetDefault":
		if n.Kind != impl.KdDir {
			return told{code: impl.ErrNotDir}
		}
		n.Shared, n.Default = false, impl.Acl{}
		if x.shared {
			n.Shared, n.Default = true, copyOfAcl(x.list)
		}
	}
	return told{tree: d.together(w.Node)}
}

// ownPlace tells where a new name comes, if nothing is against it but what the call itself asks.
func ownPlace(t impl.Tree, c impl.Cred, path string) (spot, int64) {
	w := ownWalk(t, c, path, false)
	if w.Code != impl.OK {
		return spot{}, w.Code
	}
	if w.Node > 0 {
		return spot{}, impl.ErrThere
	}
	dir := t.Nodes[w.Dir-1]
	if !ownMay(dir, c, 3) {
		return spot{}, impl.ErrAccess
	}
	if len(dir.Names) == 6 {
		return spot{}, impl.ErrFull
	}
	return spot{w.Dir, w.Name}, impl.OK
}

func ownMade(t impl.Tree, x asked) told {
	where, code := ownPlace(t, x.c, x.path)
	if code != impl.OK {
		return told{code: code}
	}
	free := slices.IndexFunc(t.Nodes, func(n impl.Node) bool { return n.Kind == impl.KdFree })
	if free < 0 {
		return told{code: impl.ErrFull}
	}
	d, in := apart(t), copyOfNode(t.Nodes[where.dir-1])
	n := impl.Node{Owner: x.c.Uid, Group: x.c.Gid, Extra: x.mode / 512, Acl: impl.AclOf(x.mode - x.mode&x.umask)}
	handed := in.Extra/2%2 == 1
	if handed {
		n.Group = in.Group
	}
	if in.Shared {
		n.Acl = ownThree(in.Default, x.mode, func(had int64, of int64) int64 { return had & of })
	}
	switch x.call {
	case "Mkdir":
		n.Kind, n.Shared, n.Default = impl.KdDir, in.Shared, in.Default
		if handed && n.Extra/2%2 == 0 {
			n.Extra += 2
		}
	case "Create":
		n.Kind = impl.KdFile
	case "Symlink":
		n.Kind, n.Extra, n.Acl, n.Body = impl.KdLink, 0, impl.Acl{User: 7, Group: 7, Other: 7}, x.body
	}
	number := int64(free) + 1
	d.nodes[free] = n
	d.names[where] = number
	return told{tree: d.together(number, where.dir), node: number}
}

func ownLinked(t impl.Tree, x asked) told {
	w := ownWalk(t, x.c, x.old, false)
	if w.Code != impl.OK {
		return told{code: w.Code}
	}
	if w.Node == 0 {
		return told{code: impl.ErrNone}
	}
	if t.Nodes[w.Node-1].Kind == impl.KdDir {
		return told{code: impl.ErrIsDir}
	}
	where, code := ownPlace(t, x.c, x.path)
	if code == impl.OK && t.Nodes[w.Node-1].Links == 5 {
		code = impl.ErrFull
	}
	if code != impl.OK {
		return told{code: code}
	}
	d := apart(t)
	d.names[where] = w.Node
	return told{tree: d.together(w.Node, where.dir)}
}

// ownKept: does a sticky directory keep that name?
func ownKept(t impl.Tree, c impl.Cred, w impl.WalkOut) bool {
	dir, n := t.Nodes[w.Dir-1], t.Nodes[w.Node-1]
	return dir.Extra%2 == 1 && !c.Root && !slices.Contains([]int64{dir.Owner, n.Owner}, c.Uid)
}

// ownLeaves tells of a name that is to go.
func ownLeaves(t impl.Tree, c impl.Cred, path string) impl.WalkOut {
	w := ownWalk(t, c, path, false)
	if w.Code == impl.OK && w.Node == 0 {
		return impl.WalkOut{Code: impl.ErrNone}
	}
	if w.Code == impl.OK && w.Name == "" {
		return impl.WalkOut{Code: impl.ErrState}
	}
	return w
}

func ownTaken(t impl.Tree, x asked) told {
	w := ownLeaves(t, x.c, x.path)
	if w.Code != impl.OK {
		return told{code: w.Code}
	}
	n := t.Nodes[w.Node-1]
	dir := n.Kind == impl.KdDir
	switch {
	case !ownMay(t.Nodes[w.Dir-1], x.c, 3):
		return told{code: impl.ErrAccess}
	case ownKept(t, x.c, w):
		return told{code: impl.ErrOwner}
	case dir && x.call == "Unlink":
		return told{code: impl.ErrIsDir}
	case !dir && x.call == "Rmdir":
		return told{code: impl.ErrNotDir}
	case len(n.Names) > 0:
		return told{code: impl.ErrEmpty}
	}
	d := apart(t)
	delete(d.names, spot{w.Dir, w.Name})
	return told{tree: d.together(w.Node, w.Dir)}
}

func ownRenamed(t impl.Tree, x asked) told {
	from := ownLeaves(t, x.c, x.old)
	if from.Code != impl.OK {
		return told{code: from.Code}
	}
	to := ownWalk(t, x.c, x.path, false)
	if to.Code != impl.OK {
		return told{code: to.Code}
	}
	n := t.Nodes[from.Node-1]
	dir := n.Kind == impl.KdDir
	switch {
	case to.Name == "":
		return told{code: impl.ErrState}
	case !ownMay(t.Nodes[from.Dir-1], x.c, 3), !ownMay(t.Nodes[to.Dir-1], x.c, 3):
		return told{code: impl.ErrAccess}
	case ownKept(t, x.c, from):
		return told{code: impl.ErrOwner}
	case to.Node == from.Node:
		return told{tree: copyOfTree(t)}
	case dir && slices.Contains(ownBelow(t, from.Node), to.Dir):
		return told{code: impl.ErrRange}
	case to.Node == 0 && to.Dir != from.Dir && len(t.Nodes[to.Dir-1].Names) == 6:
		return told{code: impl.ErrFull}
	}
	if to.Node != 0 {
		there := t.Nodes[to.Node-1]
		switch {
		case ownKept(t, x.c, to):
			return told{code: impl.ErrOwner}
		case dir && there.Kind != impl.KdDir:
			return told{code: impl.ErrNotDir}
		case !dir && there.Kind == impl.KdDir:
			return told{code: impl.ErrIsDir}
		case len(there.Names) > 0:
			return told{code: impl.ErrEmpty}
		}
	}
	d := apart(t)
	delete(d.names, spot{from.Dir, from.Name})
	d.names[spot{to.Dir, to.Name}] = from.Node
	return told{tree: d.together(from.Node, from.Dir, to.Dir, to.Node)}
}

// ownBelow is a directory and all those within it.
func ownBelow(t impl.Tree, number int64) []int64 {
	below := []int64{number}
	for i := 0; i < len(below); i++ {
		for _, e := range t.Nodes[below[i]-1].Names {
			below = append(below, e.Node)
		}
	}
	return below
}

// askers are root, owners, one of the group, those who are named, and others; one has two groups.
func askers() []impl.Cred {
	return []impl.Cred{asRoot, {Uid: 0, Gid: 0}, asOwner, {Uid: 5, Gid: 7, Groups: []int64{2}}, asNamed, asMember, {Uid: 9, Gid: 9, Groups: []int64{2, 7}}, asOther}
}

// lived is a grown tree in which things were set: extras, lists of names, lists handed on, times.
func (s *steps) lived() impl.Tree {
	t := s.tree()
	t.Now = []int64{0, 7, 7, 50, 1000, impl.MaxTime - 1, impl.MaxTime}[s.next(7)]
	for i := range t.Nodes {
		n := &t.Nodes[i]
		if n.Kind == impl.KdFree {
			continue
		}
		n.Tick = int64(s.next(int(t.Now) + 1))
		if s.next(2) == 0 {
			n.Extra = int64(s.next(8))
		}
		if s.next(2) == 0 {
			n.Acl = s.wide()
		}
		if n.Kind == impl.KdDir && s.next(2) == 0 {
			n.Shared, n.Default = true, s.wide()
		}
	}
	return t
}

// wide lets most do most, by several kinds of lists.
func (s *steps) wide() impl.Acl {
	some := []impl.Acl{impl.AclOf(0o777), impl.AclOf(0o777), impl.AclOf(0o775), impl.AclOf(0o733), impl.AclOf(0o722), masked(named(5, 7), named(7, 3), 7), masked(named(1, 3, 5, 6), named(2, 2, 7, 1), 7),
		{User: 7, Group: 5, Other: 3, Masked: true, Mask: 7}, {User: 7, Group: 7, Other: 7, Users: named(0, 0, 9, 7), Groups: named(2, 7, 9, 3), Masked: true, Mask: 3}}
	return copyOfAcl(some[s.next(len(some))])
}

// spots are all the names of a tree, in order.
func spots(t impl.Tree) []spot {
	var out []spot
	for i, n := range t.Nodes {
		for _, e := range n.Names {
			out = append(out, spot{int64(i) + 1, e.Name})
		}
	}
	return out
}

// toward is a path that ends at a name of the tree, at a name that is not there, or somewhere.
func (s *steps) toward(t impl.Tree) string {
	all := spots(t)
	behind := []string{"", "", "", "", "", "/", "/.", "/.."}[s.next(8)]
	kind := s.next(8)
	if len(all) == 0 {
		kind = 4 + kind%4
	}
	switch {
	case kind < 4:
		p := all[s.next(len(all))]
		return strings.TrimSuffix(impl.PathOf(t, p.dir), "/") + "/" + p.name + behind
	case kind < 6:
		dirs := []string{}
		for i := range t.Nodes {
			if path := impl.PathOf(t, int64(i)+1); path != "" {
				dirs = append(dirs, strings.TrimSuffix(path, "/"))
			}
		}
		return dirs[s.next(len(dirs))] + "/" + []string{"new", "zz", "A", "a", name12}[s.next(5)] + behind
	}
	return s.path(wordsOf(t), 1+s.next(3))
}

// asked draws a call that is right but for what it finds in the tree.
func (s *steps) asked(t impl.Tree, call string) asked {
	all := askers()
	x := asked{call: call, c: all[s.next(len(all))], path: s.toward(t), follow: call == "Stat" && s.next(2) == 0}
	switch call {
	case "Mkdir", "Create":
		x.mode, x.umask = int64(s.next(4096)), []int64{0, 0o022, 0o077, 4095, int64(s.next(4096))}[s.next(5)]
	case "Symlink":
		x.body = s.body()
	case "Link", "Rename":
		x.old = s.toward(t)
	case "Chmod":
		x.mode = int64(s.next(4096))
	case "Chown":
		x.uid, x.gid = []int64{0, 1, 5, 9}[s.next(4)], []int64{0, 2, 7, 9}[s.next(4)]
	case "SetAcl", "SetDefault":
		x.list, x.shared = s.wide(), call == "SetDefault" && s.next(2) == 0
	case "Access":
		x.want = int64(s.next(8))
	}
	return x
}

// codesOf are those that a call can tell of a right tree and right arguments, which the drawn ones have to meet.
func codesOf(call string) []int64 {
	walk := []int64{impl.OK, impl.ErrNone, impl.ErrAccess, impl.ErrNotDir, impl.ErrLoop}
	more := map[string][]int64{
		"Mkdir": {impl.ErrThere, impl.ErrFull}, "Create": {impl.ErrThere, impl.ErrFull}, "Symlink": {impl.ErrThere, impl.ErrFull}, "Link": {impl.ErrIsDir, impl.ErrThere, impl.ErrFull},
		"Unlink": {impl.ErrState, impl.ErrOwner, impl.ErrIsDir, impl.ErrFull}, "Rmdir": {impl.ErrState, impl.ErrOwner, impl.ErrEmpty, impl.ErrFull},
		"Rename": {impl.ErrState, impl.ErrOwner, impl.ErrRange, impl.ErrIsDir, impl.ErrEmpty, impl.ErrFull}, "Chmod": {impl.ErrOwner, impl.ErrFull}, "Chown": {impl.ErrOwner, impl.ErrFull},
		"SetAcl": {impl.ErrOwner, impl.ErrFull}, "SetDefault": {impl.ErrOwner, impl.ErrFull},
	}
	return append(walk, more[call]...)
}

// All fourteen, of drawn trees, against the second telling.
func TestWhatMayBeAskedToldTwice(t *testing.T) {
	for i, call := range allAsk {
		t.Run(call, func(t *testing.T) {
			s := steps(1000 + i)
			seen := map[int64]int{}
			for range 700 {
				tree := s.lived()
				for range 8 {
					x := s.asked(tree, call)
					got, want := ask(tree, x), ownAsk(tree, x)
					if !sameTold(got, want) {
						t.Fatalf("%s in %+v: got %+v, want %+v", shownAsk(x), tree, got, want)
					}
					if got.code == impl.OK && slices.Contains(changer, call) && !ownTreeRight(got.tree) {
						t.Fatalf("%s in %+v: %+v is not right", shownAsk(x), tree, got.tree)
					}
					seen[got.code]++
				}
			}
			for _, code := range codesOf(call) {
				if seen[code] < 5 {
					t.Errorf("the code %d came %d times: too little was asked", code, seen[code])
				}
			}
		})
	}
}

// Calls one upon another, from an empty tree on: each is held against the second telling, and the tree stays right.
func TestLivesOfTreesToldTwice(t *testing.T) {
	s := steps(77)
	seen := map[string]int{}
	for range 80 {
		tree := impl.TreeNew(0, 0, 0o1777).Tree
		for range 200 {
			x := s.asked(tree, allAsk[s.next(len(allAsk))])
			got, want := ask(tree, x), ownAsk(tree, x)
			if !sameTold(got, want) {
				t.Fatalf("%s in %+v: got %+v, want %+v", shownAsk(x), tree, got, want)
			}
			if got.code != impl.OK {
				continue
			}
			seen[x.call]++
			if slices.Contains(changer, x.call) {
				tree = got.tree
			}
			if !impl.TreeRight(tree) || !ownTreeRight(tree) {
				t.Fatalf("after %s the tree is not right: %+v", shownAsk(x), tree)
			}
		}
	}
	for _, call := range allAsk {
		if seen[call] < 20 {
			t.Errorf("%s was carried out %d times: too little was asked", call, seen[call])
		}
	}
}
