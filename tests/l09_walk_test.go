package tests

import (
	"fmt"
	"math"
	"reflect"
	"regexp"
	"slices"
	"strings"
	"testing"

	"loop.example/g00622/impl"
)

const part13 = "thirteen-byte"

var (
	pathShape = regexp.MustCompile("^/[!-~]{0,59}$")
	partLong  = regexp.MustCompile("[^/]{13}")
	partShape = regexp.MustCompile("[^/]+")
)

// ownParts tells a path's parts anew, apart from the program.
func ownParts(path string) impl.PartsOut {
	if len(path) > 8000 {
		return impl.PartsOut{Code: impl.ErrSize}
	}
	if !pathShape.MatchString(path) {
		return impl.PartsOut{Code: impl.ErrForm}
	}
	if partLong.MatchString(path) {
		return impl.PartsOut{Code: impl.ErrRange}
	}
	return impl.PartsOut{Parts: partShape.FindAllString(path, -1), Slash: path[len(path)-1] == '/'}
}

func ownCredRight(c impl.Cred) bool {
	ids := append([]int64{c.Uid, c.Gid}, c.Groups...)
	rising := slices.IsSorted(c.Groups) && len(slices.Compact(slices.Clone(c.Groups))) == len(c.Groups)
	return len(c.Groups) <= 8 && rising && slices.Min(ids) >= 0 && slices.Max(ids) <= 9999
}

// ownWalk tells a way anew, apart from the program: it goes the text of the path, into which the bodies of links are
// written as they come.
func ownWalk(t impl.Tree, c impl.Cred, path string, follow bool) impl.WalkOut {
	fault := func(code int64) impl.WalkOut { return impl.WalkOut{Code: code} }
	parts := ownParts(path)
	if parts.Code == impl.ErrSize {
		return fault(impl.ErrSize)
	}
	if !ownTreeRight(t) || !ownCredRight(c) {
		return fault(impl.ErrForm)
	}
	if parts.Code != impl.OK {
		return fault(parts.Code)
	}
	out, links, rest := impl.WalkOut{Node: 1, Dir: 1}, 0, strings.Trim(path, "/")
	for rest != "" {
		here, number := t.Nodes[out.Node-1], out.Node
		if here.Kind != impl.KdDir {
			return fault(impl.ErrNotDir)
		}
		if !ownMay(here, c, 1) {
			return fault(impl.ErrAccess)
		}
		part, behind, _ := strings.Cut(rest, "/")
		rest = strings.Trim(behind, "/")
		if part == "." || part == ".." {
			out = impl.WalkOut{Node: number, Dir: number}
			if part == ".." {
				out = impl.WalkOut{Node: here.Up, Dir: here.Up}
			}
			continue
		}
		out = impl.WalkOut{Node: ownNamed(here, part), Dir: number, Name: part}
		if out.Node == 0 && rest != "" {
			return fault(impl.ErrNone)
		}
		if out.Node == 0 {
			return out
		}
		found := t.Nodes[out.Node-1]
		if found.Kind != impl.KdLink || rest == "" && !follow && !strings.HasSuffix(path, "/") {
			continue
		}
		if links++; links == 9 {
			return fault(impl.ErrLoop)
		}
		if found.Body[0] == '/' {
			number = 1
		}
		out, rest = impl.WalkOut{Node: number, Dir: number}, strings.Trim(found.Body+"/"+rest, "/")
	}
	if strings.HasSuffix(path, "/") && t.Nodes[out.Node-1].Kind != impl.KdDir {
		return fault(impl.ErrNotDir)
	}
	return out
}

func ownNamed(dir impl.Node, name string) int64 {
	for _, e := range dir.Names {
		if e.Name == name {
			return e.Node
		}
	}
	return 0
}

func withMode(n impl.Node, mode int64) impl.Node {
	n.Acl = impl.AclOf(mode)
	return n
}

// lane has links to a directory, to a file, to a link, to nothing, in a circle, to the top, with dots, and with a part
// that is too long; a file and a link have two names.
func lane() impl.Tree {
	return impl.Tree{Nodes: []impl.Node{
		dirNode(1, at("a", 2), at("la", 5), at("lf", 6), at("ll", 7), at("ln", 8), at("lo", 9)),
		dirNode(1, at("b", 3), at("dots", 10), at("la", 5), at("long", 12), at("root", 11)),
		dirNode(2, at("f", 4), at("g", 4)),
		fileNode(2),
		linkNode(2, "a"),
		linkNode(1, "a/b/f"),
		linkNode(1, "la//b/"),
		linkNode(1, "a/nothing"),
		linkNode(1, "/lo"),
		linkNode(1, "./..//a/b/."),
		linkNode(1, "//"),
		linkNode(1, part13),
	}}
}

// gates has directories that let in the owner alone, the group alone, those named alone, and nobody; a file is in each.
func gates() impl.Tree {
	top := withMode(dirNode(1, at("grp", 2), at("in", 6), at("nam", 3), at("no", 4), at("own", 5), at("to", 7)), 0o755)
	top.Owner, top.Group = 0, 0
	names := dirNode(1, at("in", 6))
	names.Acl = impl.Acl{Users: named(5, 1), Groups: named(7, 1), Masked: true, Mask: 1}
	return impl.Tree{Nodes: []impl.Node{
		top,
		withMode(dirNode(1, at("d", 8), at("in", 6), at("up", 9)), 0o010),
		names,
		withMode(dirNode(1, at("d", 10), at("in", 6), at("l", 11)), 0),
		withMode(dirNode(1, at("d", 12), at("in", 6)), 0o100),
		fileNode(5),
		linkNode(1, "own/in"),
		withMode(dirNode(2), 0o777),
		linkNode(1, "../nam/in"),
		withMode(dirNode(4), 0o777),
		linkNode(1, "/"),
		withMode(dirNode(5), 0),
	}}
}

// stairs has nine links, each within the one ahead of it.
func stairs() impl.Tree {
	return impl.Tree{Nodes: []impl.Node{
		dirNode(1, at("d", 2), at("f", 3), at("l1", 4), at("l2", 5), at("l3", 6), at("l4", 7)),
		dirNode(1, at("l5", 8), at("l6", 9), at("l7", 10), at("l8", 11), at("l9", 12)),
		fileNode(1),
		linkNode(1, "l2"), linkNode(1, "l3"), linkNode(1, "l4"), linkNode(1, "d/l5"),
		linkNode(1, "l6"), linkNode(1, "./l7"), linkNode(1, "../d/l8"), linkNode(1, "/d/l9"), linkNode(1, "/f"),
	}}
}

// turns has links that lead back to where they are, one after another as often as one likes.
func turns() impl.Tree {
	return impl.Tree{Nodes: []impl.Node{
		dirNode(1, at("d", 3), at("s", 2), at("t", 4), at("w", 6)),
		linkNode(1, "."),
		dirNode(1, at("u", 5)),
		linkNode(1, "/"), linkNode(1, ".."), linkNode(1, "s/s//s/s"),
	}}
}

func walkTrees() []impl.Tree {
	shut := withMode(lane().Nodes[0], 0)
	closed := changed(lane(), func(t *impl.Tree) { t.Nodes[0] = shut })
	return []impl.Tree{lane(), gates(), stairs(), turns(), closed, wood(), chain(true), full(), impl.TreeNew(0, 0, 0o700).Tree}
}

var (
	asRoot   = impl.Cred{Uid: 9, Gid: 9, Root: true}
	asOwner  = impl.Cred{Uid: 1, Gid: 9}
	asMember = impl.Cred{Uid: 9, Gid: 2}
	asNamed  = impl.Cred{Uid: 5, Gid: 9}
	asOther  = impl.Cred{Uid: 9, Gid: 9}
)

// walkers are root, the owner, one of the group (by Gid, by Groups), one who is named (by Uid, by Gid, by Groups), others.
func walkers() []impl.Cred {
	return []impl.Cred{asRoot, asOwner, asMember, {Uid: 9, Gid: 9, Groups: []int64{2, 8}}, asNamed, {Uid: 9, Gid: 7}, {Uid: 9, Gid: 9, Groups: []int64{7}}, asOther}
}

func wantParts(t *testing.T, path string, want impl.PartsOut) {
	t.Helper()
	got := impl.PathParts(path)
	if got.Code != want.Code || got.Slash != want.Slash || !slices.Equal(got.Parts, want.Parts) {
		t.Errorf("PathParts(%.80q): got %+v, want %+v", path, got, want)
	}
}

func TestPathPartsByHand(t *testing.T) {
	parts := func(slash bool, parts ...string) impl.PartsOut { return impl.PartsOut{Parts: parts, Slash: slash} }
	fault := func(code int64) impl.PartsOut { return impl.PartsOut{Code: code} }
	sixty := strings.Repeat("/abcdefghijk", 5)
	rows := []struct {
		path string
		want impl.PartsOut
	}{
		{"", fault(impl.ErrForm)}, {"/", parts(true)}, {"//", parts(true)}, {"///", parts(true)}, {"/a", parts(false, "a")}, {"/a/", parts(true, "a")}, {"/a//", parts(true, "a")}, {"//a", parts(false, "a")},
		{"/a/b", parts(false, "a", "b")}, {"///a///b///", parts(true, "a", "b")}, {"/./..", parts(false, ".", "..")}, {"/.../.", parts(false, "...", ".")}, {"/!/~", parts(false, "!", "~")},
		{"a", fault(impl.ErrForm)}, {"a/b", fault(impl.ErrForm)}, {"./a", fault(impl.ErrForm)}, {"../", fault(impl.ErrForm)}, {" /a", fault(impl.ErrForm)}, {"/ ", fault(impl.ErrForm)}, {"/a b", fault(impl.ErrForm)},
		{"/a\n", fault(impl.ErrForm)}, {"/\x7f", fault(impl.ErrForm)}, {"/\x00", fault(impl.ErrForm)}, {"/\xff", fault(impl.ErrForm)}, {"/\u00e4", fault(impl.ErrForm)}, {"\\a", fault(impl.ErrForm)},
		{"/" + name12, parts(false, name12)}, {"/" + name12 + "/", parts(true, name12)}, {"/a/" + name12 + "/b", parts(false, "a", name12, "b")}, {"/" + part13, fault(impl.ErrRange)}, {"/" + part13 + "/", fault(impl.ErrRange)},
		{"/a/" + part13 + "/b", fault(impl.ErrRange)}, {"/a//" + part13, fault(impl.ErrRange)}, {"/" + strings.Repeat(".", 13), fault(impl.ErrRange)}, {"/" + strings.Repeat("x", 59), fault(impl.ErrRange)},
		{sixty, parts(false, "abcdefghijk", "abcdefghijk", "abcdefghijk", "abcdefghijk", "abcdefghijk")}, {sixty + "/", fault(impl.ErrForm)}, {strings.Repeat("/", 60), parts(true)}, {strings.Repeat("/", 61), fault(impl.ErrForm)},
		// Both faults hold of these: the one that is named first is told.
		{part13, fault(impl.ErrForm)}, {"a/" + part13, fault(impl.ErrForm)}, {"/" + part13 + " ", fault(impl.ErrForm)}, {"/ /" + part13, fault(impl.ErrForm)}, {"/" + strings.Repeat("x", 60), fault(impl.ErrForm)},
		{strings.Repeat("/", impl.MaxBytes), fault(impl.ErrForm)}, {strings.Repeat("/", impl.MaxBytes+1), fault(impl.ErrSize)}, {tooLong, fault(impl.ErrSize)}, {strings.Repeat(" ", 1<<20), fault(impl.ErrSize)},
	}
	for _, r := range rows {
		wantParts(t, r.path, r.want)
		wantParts(t, r.path, ownParts(r.path))
	}
}

func TestPathPartsOfEachByteAndLength(t *testing.T) {
	for _, base := range []string{"a", "/", "ab/", "abcdefghijkl/", "abcdefghijklm/"} {
		whole := "/" + strings.Repeat(base, 70)
		for length := range 64 {
			wantParts(t, whole[:length], ownParts(whole[:length]))
			for b := range 256 {
				for _, place := range []int{0, length / 2, length - 1} {
					text := []byte(whole[:length])
					if length > 0 {
						text[place] = byte(b)
					}
					wantParts(t, string(text), ownParts(string(text)))
				}
			}
		}
	}
}

type walkRow struct {
	c      impl.Cred
	path   string
	follow bool
	want   impl.WalkOut
}

func found(node int64, dir int64, name string) impl.WalkOut {
	return impl.WalkOut{Node: node, Dir: dir, Name: name}
}

func stuck(code int64) impl.WalkOut {
	return impl.WalkOut{Code: code}
}

// either is the same with follow and without.
func either(c impl.Cred, path string, want impl.WalkOut) []walkRow {
	return []walkRow{{c, path, false, want}, {c, path, true, want}}
}

func wantWalks(t *testing.T, tree impl.Tree, rows ...walkRow) {
	t.Helper()
	if !impl.TreeRight(tree) {
		t.Fatalf("this tree is right: %+v", tree)
	}
	for _, r := range rows {
		if got := impl.Walk(tree, r.c, r.path, r.follow); got != r.want {
			t.Errorf("%s goes %q (%v): got %+v, want %+v", credOwnText(r.c), r.path, r.follow, got, r.want)
		}
		if got := ownWalk(tree, r.c, r.path, r.follow); got != r.want {
			t.Errorf("the second telling of %s, %q (%v): %+v", credOwnText(r.c), r.path, r.follow, got)
		}
	}
}

func TestWalkWithoutLinks(t *testing.T) {
	rows := map[string]impl.WalkOut{
		"/": found(1, 1, ""), "//": found(1, 1, ""), "/.": found(1, 1, ""), "/./": found(1, 1, ""), "/..": found(1, 1, ""), "/../..": found(1, 1, ""), "/../": found(1, 1, ""),
		"/a": found(2, 1, "a"), "/a/": found(2, 1, "a"), "//a//": found(2, 1, "a"), "/a/.": found(2, 2, ""), "/a/./": found(2, 2, ""), "/a/..": found(1, 1, ""), "/../a": found(2, 1, "a"), "/./a/./.": found(2, 2, ""),
		"/a/b": found(3, 2, "b"), "/a/b/..": found(2, 2, ""), "/a/b/../": found(2, 2, ""), "/a/b/../..": found(1, 1, ""), "/a/b/../b": found(3, 2, "b"), "/a/b/f": found(4, 3, "f"), "/a/b/g": found(4, 3, "g"), "///a///b///f": found(4, 3, "f"),
		"/a/b/f/": stuck(impl.ErrNotDir), "/a/b/f/.": stuck(impl.ErrNotDir), "/a/b/f/..": stuck(impl.ErrNotDir), "/a/b/f/x": stuck(impl.ErrNotDir), "/a/b/f/x/y": stuck(impl.ErrNotDir), "/a/b/f/../g": stuck(impl.ErrNotDir),
		"/x": found(0, 1, "x"), "/x/": found(0, 1, "x"), "/x//": found(0, 1, "x"), "/a/b/x": found(0, 3, "x"), "/a/b/x/": found(0, 3, "x"), "/a/../x": found(0, 1, "x"), "/" + name12: found(0, 1, name12),
		"/x/y": stuck(impl.ErrNone), "/x/.": stuck(impl.ErrNone), "/x/..": stuck(impl.ErrNone), "/x/../a": stuck(impl.ErrNone), "/a/x/b": stuck(impl.ErrNone), "/x/y/": stuck(impl.ErrNone), "/a/bb": found(0, 2, "bb"), "/aa": found(0, 1, "aa"),
		"": stuck(impl.ErrForm), "a": stuck(impl.ErrForm), "/a b": stuck(impl.ErrForm), strings.Repeat("/", 60): found(1, 1, ""), strings.Repeat("/", 61): stuck(impl.ErrForm), "/" + part13: stuck(impl.ErrRange), "/x/" + part13: stuck(impl.ErrRange),
		part13: stuck(impl.ErrForm), tooLong: stuck(impl.ErrSize),
	}
	for path, want := range rows {
		wantWalks(t, lane(), either(asRoot, path, want)...)
	}
}

func TestWalkByLinks(t *testing.T) {
	rows := []struct {
		path   string
		itself impl.WalkOut
		behind impl.WalkOut
	}{
		{"/la", found(5, 1, "la"), found(2, 1, "a")}, {"/lf", found(6, 1, "lf"), found(4, 3, "f")}, {"/ll", found(7, 1, "ll"), found(3, 2, "b")}, {"/ln", found(8, 1, "ln"), found(0, 2, "nothing")},
		{"/lo", found(9, 1, "lo"), stuck(impl.ErrLoop)}, {"/a/la", found(5, 2, "la"), found(0, 2, "a")}, {"/a/dots", found(10, 2, "dots"), found(3, 3, "")}, {"/a/root", found(11, 2, "root"), found(1, 1, "")},
		{"/a/long", found(12, 2, "long"), found(0, 2, part13)}, {"/la/root", found(11, 2, "root"), found(1, 1, "")}, {"/a/root/la", found(5, 1, "la"), found(2, 1, "a")}, {"/ll/../la", found(5, 2, "la"), found(0, 2, "a")},
	}
	for _, r := range rows {
		behindSlash := r.behind
		if r.behind.Node == 4 {
			behindSlash = stuck(impl.ErrNotDir)
		}
		wantWalks(t, lane(), walkRow{asRoot, r.path, false, r.itself}, walkRow{asRoot, r.path, true, r.behind})
		wantWalks(t, lane(), append(either(asRoot, r.path+"/", behindSlash), either(asRoot, r.path+"//", behindSlash)...)...)
	}
	further := map[string]impl.WalkOut{
		"/la/.": found(2, 2, ""), "/la/..": found(1, 1, ""), "/la/b": found(3, 2, "b"), "/la/b/f": found(4, 3, "f"), "/la/x": found(0, 2, "x"), "/la/x/y": stuck(impl.ErrNone), "/lf/x": stuck(impl.ErrNotDir), "/lf/.": stuck(impl.ErrNotDir),
		"/lf/..": stuck(impl.ErrNotDir), "/ll/f": found(4, 3, "f"), "/ll/f/": stuck(impl.ErrNotDir), "/ll/..": found(2, 2, ""), "/ll/.": found(3, 3, ""), "/ln/x": stuck(impl.ErrNone), "/ln/.": stuck(impl.ErrNone), "/ln/..": stuck(impl.ErrNone),
		"/lo/x": stuck(impl.ErrLoop), "/lo/..": stuck(impl.ErrLoop), "/a/la/x": stuck(impl.ErrNone), "/a/dots/f": found(4, 3, "f"), "/a/dots/..": found(2, 2, ""), "/a/dots/x": found(0, 3, "x"), "/a/root/a": found(2, 1, "a"),
		"/a/root/.": found(1, 1, ""), "/a/root/x": found(0, 1, "x"), "/a/root/a/root/a/b": found(3, 2, "b"), "/a/long/x": stuck(impl.ErrNone), "/a/long/..": stuck(impl.ErrNone), "/a/long/" + part13: stuck(impl.ErrRange),
	}
	for path, want := range further {
		wantWalks(t, lane(), either(asRoot, path, want)...)
	}
}

// One body at a time, in a directory d with a directory e and a file f in it, at the end of a path, and with more behind it.
func TestWalkByBodies(t *testing.T) {
	rows := []struct {
		body string
		end  impl.WalkOut
		more impl.WalkOut
	}{
		{"/", found(1, 1, ""), found(0, 1, "x")}, {"//", found(1, 1, ""), found(0, 1, "x")}, {strings.Repeat("/", 40), found(1, 1, ""), found(0, 1, "x")}, {".", found(2, 2, ""), found(0, 2, "x")}, {"./", found(2, 2, ""), found(0, 2, "x")},
		{"..", found(1, 1, ""), found(0, 1, "x")}, {"../..", found(1, 1, ""), found(0, 1, "x")}, {"/.", found(1, 1, ""), found(0, 1, "x")}, {"/..", found(1, 1, ""), found(0, 1, "x")}, {"e", found(3, 2, "e"), found(0, 3, "x")},
		{"e/", found(3, 2, "e"), found(0, 3, "x")}, {".//e//", found(3, 2, "e"), found(0, 3, "x")}, {"/d/e", found(3, 2, "e"), found(0, 3, "x")}, {"//d///e/", found(3, 2, "e"), found(0, 3, "x")}, {"e/.", found(3, 3, ""), found(0, 3, "x")},
		{"e/..", found(2, 2, ""), found(0, 2, "x")}, {"/e", found(0, 1, "e"), stuck(impl.ErrNone)}, {"d", found(0, 2, "d"), stuck(impl.ErrNone)}, {"d/e", stuck(impl.ErrNone), stuck(impl.ErrNone)}, {"x/", found(0, 2, "x"), stuck(impl.ErrNone)},
		{"x/.", stuck(impl.ErrNone), stuck(impl.ErrNone)}, {"f", found(4, 2, "f"), stuck(impl.ErrNotDir)}, {"f/", found(4, 2, "f"), stuck(impl.ErrNotDir)}, {"../d/f", found(4, 2, "f"), stuck(impl.ErrNotDir)}, {"f/.", stuck(impl.ErrNotDir), stuck(impl.ErrNotDir)},
		{"f/..", stuck(impl.ErrNotDir), stuck(impl.ErrNotDir)}, {"l", stuck(impl.ErrLoop), stuck(impl.ErrLoop)}, {"./l", stuck(impl.ErrLoop), stuck(impl.ErrLoop)}, {"/d/l/x", stuck(impl.ErrLoop), stuck(impl.ErrLoop)}, {"e/../l", stuck(impl.ErrLoop), stuck(impl.ErrLoop)},
		{part13, found(0, 2, part13), stuck(impl.ErrNone)}, {part13 + "/", found(0, 2, part13), stuck(impl.ErrNone)}, {"/" + part13, found(0, 1, part13), stuck(impl.ErrNone)}, {part13 + "/..", stuck(impl.ErrNone), stuck(impl.ErrNone)},
		{"e/" + strings.Repeat("y", 38), found(0, 3, strings.Repeat("y", 38)), stuck(impl.ErrNone)}, {"f/" + part13, stuck(impl.ErrNotDir), stuck(impl.ErrNotDir)}, {name12, found(0, 2, name12), stuck(impl.ErrNone)}, {strings.Repeat("/.", 20), found(1, 1, ""), found(0, 1, "x")},
		{strings.Repeat("e/../", 7) + "e", found(3, 2, "e"), found(0, 3, "x")},
	}
	for _, r := range rows {
		tree := impl.Tree{Nodes: []impl.Node{dirNode(1, at("d", 2)), dirNode(1, at("e", 3), at("f", 4), at("l", 5)), dirNode(2), fileNode(1), linkNode(1, r.body)}}
		slash := r.end
		if slash.Node == 4 {
			slash = stuck(impl.ErrNotDir)
		}
		for _, c := range []impl.Cred{asRoot, asOwner} {
			wantWalks(t, tree, walkRow{c, "/d/l", false, found(5, 2, "l")}, walkRow{c, "/d/l", true, r.end})
			wantWalks(t, tree, append(either(c, "/d/l/", slash), either(c, "/d/l/x", r.more)...)...)
		}
	}
}

func TestWalkByAsManyLinksAsMayBe(t *testing.T) {
	f, loop := found(3, 1, "f"), stuck(impl.ErrLoop)
	wantWalks(t, stairs(), walkRow{asRoot, "/l1", false, found(4, 1, "l1")}, walkRow{asRoot, "/l1", true, loop}, walkRow{asRoot, "/l2", false, found(5, 1, "l2")}, walkRow{asRoot, "/l2", true, f},
		walkRow{asRoot, "/d/l9", true, f}, walkRow{asRoot, "/d/l5", true, f}, walkRow{asRoot, "/d/../l2", true, f}, walkRow{asRoot, "/d/../l1", true, loop})
	for path, want := range map[string]impl.WalkOut{"/l1/": loop, "/l1/x": loop, "/l1/.": loop, "/l2/": stuck(impl.ErrNotDir), "/l2/x": stuck(impl.ErrNotDir), "/l2/..": stuck(impl.ErrNotDir)} {
		wantWalks(t, stairs(), either(asRoot, path, want)...)
	}
	s, top := found(2, 1, "s"), found(1, 1, "")
	for count := 1; count <= 12; count++ {
		path, last, behind := strings.Repeat("/s", count), s, top
		if count > 9 {
			last = loop
		}
		if count > 8 {
			behind = loop
		}
		wantWalks(t, turns(), walkRow{asRoot, path, false, last}, walkRow{asRoot, path, true, behind})
		wantWalks(t, turns(), append(either(asRoot, path+"/", behind), either(asRoot, path+"/.", behind)...)...)
	}
	for path, want := range map[string]impl.WalkOut{"/d/u/d/u/d/u/d/u/s/s/t/t": top, "/d/u/d/u/d/u/d/u/s/s/t/t/s": loop, "/w": top, "/w/s/s/s": top, "/w/s/s/s/s": loop, "/s/s/s/w": top, "/s/s/s/s/w": loop, "/w/w": loop, "/t/t/t/t/t/t/t/t": top, "/t/t/t/t/t/t/t/t/t": loop} {
		wantWalks(t, turns(), walkRow{asRoot, path, true, want}, walkRow{asRoot, path + "/", false, want})
	}
}

func TestWalkThroughGates(t *testing.T) {
	no := stuck(impl.ErrAccess)
	in := map[string]int64{"/grp/in": 2, "/nam/in": 3, "/no/in": 4, "/own/in": 5}
	lets := map[string]string{"/grp/in": " 2 3 ", "/nam/in": " 4 5 6 ", "/no/in": " ", "/own/in": " 1 "}
	for i, c := range walkers() {
		for path, dir := range in {
			want := no
			if i == 0 || strings.Contains(lets[path], fmt.Sprint(" ", i, " ")) {
				want = found(6, dir, "in")
			}
			wantWalks(t, gates(), either(c, path, want)...)
		}
		wantWalks(t, gates(), either(c, "/in/x", stuck(impl.ErrNotDir))...)
		wantWalks(t, gates(), either(c, "/in/", stuck(impl.ErrNotDir))...)
		wantWalks(t, gates(), either(c, "/no", found(4, 1, "no"))...)
		wantWalks(t, gates(), either(c, "/no/", found(4, 1, "no"))...)
	}
	for _, path := range []string{"/no/in", "/no/in/", "/no/in/x", "/no/none", "/no/none/", "/no/none/x", "/no/.", "/no/./", "/no/..", "/no/../in", "/no/d", "/no/d/..", "/no/l", "/no/l/in", "/no/in/" + name12} {
		for _, c := range walkers()[1:] {
			wantWalks(t, gates(), either(c, path, no)...)
		}
	}
	for path, want := range map[string]impl.WalkOut{"/no/.": found(4, 4, ""), "/no/..": found(1, 1, ""), "/no/d/..": found(4, 4, ""), "/no/l/in": found(6, 1, "in"), "/no/none": found(0, 4, "none"), "/own/d/.": found(12, 12, ""), "/no/in/x": stuck(impl.ErrNotDir), "/no/none/x": stuck(impl.ErrNone)} {
		wantWalks(t, gates(), either(asRoot, path, want)...)
	}
	for path, want := range map[string]impl.WalkOut{"/own/d": found(12, 5, "d"), "/own/d/": found(12, 5, "d"), "/own/d/.": no, "/own/d/..": no, "/own/d/x": no, "/grp": found(2, 1, "grp"), "/grp/d": no, "/own/x": found(0, 5, "x"), "/own/x/y": stuck(impl.ErrNone)} {
		wantWalks(t, gates(), either(asOwner, path, want)...)
	}
	wantWalks(t, gates(), walkRow{asOwner, "/to", true, found(6, 5, "in")}, walkRow{asOwner, "/to/", true, stuck(impl.ErrNotDir)}, walkRow{asMember, "/to", false, found(7, 1, "to")}, walkRow{asMember, "/to", true, no}, walkRow{asMember, "/to/", false, no},
		walkRow{asMember, "/grp/up", false, found(9, 2, "up")}, walkRow{asMember, "/grp/up", true, no}, walkRow{asMember, "/grp/d/../..", false, found(1, 1, "")}, walkRow{asNamed, "/nam/../in", false, found(6, 1, "in")},
		walkRow{asRoot, "/grp/up", true, found(6, 3, "in")}, walkRow{asRoot, "/to", true, found(6, 5, "in")})
}

// Who is not let in at the top is there nevertheless, and goes nowhere from there, not even to where one is.
func TestWalkFromATopThatLetsNobodyIn(t *testing.T) {
	tree := changedNode(lane(), 1, func(n *impl.Node) { n.Acl = impl.Acl{User: 6, Group: 6, Other: 6} })
	for _, c := range walkers()[1:] {
		wantWalks(t, tree, append(either(c, "/", found(1, 1, "")), either(c, "//", found(1, 1, ""))...)...)
		for _, path := range []string{"/.", "/..", "/./", "/a", "/a/", "/x", "/x/y", "/la", "/a/b/f/x"} {
			wantWalks(t, tree, either(c, path, stuck(impl.ErrAccess))...)
		}
	}
	wantWalks(t, tree, either(asRoot, "/../a/./b", found(3, 2, "b"))...)
}

// endsWhereItSays asks of an answer what promise 16 says of each: by its name one comes from its directory to its node, or
// there is no name, and it is that node.
func endsWhereItSays(tree impl.Tree, got impl.WalkOut) bool {
	if got.Code != impl.OK {
		return got == stuck(got.Code)
	}
	if got.Dir < 1 || got.Dir > int64(len(tree.Nodes)) {
		return false
	}
	dir := tree.Nodes[got.Dir-1]
	if got.Name == "" {
		return got.Dir == got.Node && dir.Kind == impl.KdDir
	}
	return dir.Kind == impl.KdDir && ownNamed(dir, got.Name) == got.Node
}

// wantWay holds one walk of everybody against the second telling, and against what root is told.
func wantWay(t *testing.T, tree impl.Tree, path string, follow bool, seen map[int64]int) {
	t.Helper()
	all := impl.Walk(tree, asRoot, path, follow)
	if plain := goneBy(tree, path); plain != 0 && (all.Code != impl.OK || all.Node != plain) {
		t.Fatalf("root is not led to %d by %q in %+v, but %+v", plain, path, tree, all)
	}
	for _, c := range walkers() {
		got, want := impl.Walk(tree, c, path, follow), ownWalk(tree, c, path, follow)
		asAll := got == all || !c.Root && got == stuck(impl.ErrAccess)
		if got != want || !asAll || !endsWhereItSays(tree, got) {
			t.Fatalf("%s goes %q (%v): got %+v, want %+v (and root %+v) in %+v", credOwnText(c), path, follow, got, want, all, tree)
		}
		seen[got.Code]++
		if got.Code == impl.OK && got.Node == 0 {
			seen[-1]++
		}
	}
}

// goneBy is where a path leads by names alone, 0 if there are dots, links or anything else on it.
func goneBy(t impl.Tree, path string) int64 {
	parts := ownParts(path)
	if parts.Code != impl.OK {
		return 0
	}
	number := int64(1)
	for _, name := range parts.Parts {
		number = ownNamed(t.Nodes[number-1], name)
		if number == 0 || t.Nodes[number-1].Kind == impl.KdLink {
			return 0
		}
	}
	if parts.Slash && t.Nodes[number-1].Kind != impl.KdDir {
		return 0
	}
	return number
}

func wantAllSeen(t *testing.T, seen map[int64]int) {
	t.Helper()
	for _, code := range []int64{-1, impl.OK, impl.ErrNone, impl.ErrAccess, impl.ErrNotDir, impl.ErrLoop} {
		if seen[code] < 20 {
			t.Errorf("the code %d came %d times: too little was asked", code, seen[code])
		}
	}
}

// wordsOf are the names of a tree, and some that lead on or nowhere.
func wordsOf(t impl.Tree) []string {
	words := []string{".", "..", "x"}
	for _, n := range t.Nodes {
		for _, e := range n.Names {
			if !slices.Contains(words, e.Name) {
				words = append(words, e.Name)
			}
		}
	}
	return words
}

// Promise 16: each path of at most two words, and of three, four and five that are drawn, in the trees made by hand.
func TestWaysEndWhereTheySay(t *testing.T) {
	seen := map[int64]int{}
	s := steps(16)
	for _, tree := range walkTrees() {
		words := wordsOf(tree)
		paths := []string{"", "x", "/", "//", "/" + part13, "/x y", tooLong}
		for _, a := range words {
			paths = append(paths, "/"+a, "/"+a+"/")
			for _, b := range words {
				paths = append(paths, "/"+a+"/"+b, "//"+a+"//"+b+"/")
			}
		}
		for count := 3; count <= 5; count++ {
			for range 150 {
				paths = append(paths, s.path(words, count))
			}
		}
		for _, path := range paths {
			wantWay(t, tree, path, false, seen)
			wantWay(t, tree, path, true, seen)
		}
	}
	wantAllSeen(t, seen)
}

func (s *steps) path(words []string, count int) string {
	path := ""
	for range count {
		path += "/" + words[s.next(len(words))]
	}
	if s.next(4) == 0 {
		path += "/"
	}
	return path
}

var grownNames = []string{"a", "b", "c", "d", "e", "f"}

func (s *steps) body() string {
	body := []string{"", "", "/"}[s.next(3)]
	for i := range s.next(4) {
		if i > 0 {
			body += []string{"/", "/", "//"}[s.next(3)]
		}
		body += append([]string{".", "..", "..", part13}, slices.Concat(grownNames, grownNames)...)[s.next(16)]
	}
	if body == "" {
		return "/"
	}
	body += []string{"", "", "/"}[s.next(3)]
	return body[:min(len(body), 40)]
}

// acl lets in everybody as often as not, or else some alone.
func (s *steps) acl() impl.Acl {
	if s.next(2) == 0 {
		return impl.AclOf(0o755)
	}
	some := []impl.Acl{{}, {User: 1}, {Group: 1}, {Other: 1}, {User: 6, Group: 7, Other: 6}, {User: 7, Group: 6, Other: 7}, {Users: named(5, 1), Masked: true, Mask: 7}, {Groups: named(7, 5), Masked: true, Mask: 1},
		{User: 1, Other: 1, Users: named(5, 7), Groups: named(2, 1, 7, 1), Masked: true, Mask: 6}}
	return copyOfAcl(some[s.next(len(some))])
}

// tree grows a right tree: each new one is put under a directory that was there, files and links under several.
func (s *steps) tree() impl.Tree {
	t := impl.Tree{Nodes: make([]impl.Node, 1+s.next(12))}
	t.Nodes[0] = dirNode(1)
	dirs := []int64{1}
	for i := range t.Nodes {
		n := &t.Nodes[i]
		number := int64(i) + 1
		kind := []int64{impl.KdDir, impl.KdDir, impl.KdFile, impl.KdLink, impl.KdLink}[s.next(5)]
		if i > 0 && s.grownUnder(&t, dirs, number) {
			*n = impl.Node{Kind: kind, Links: 1}
			for n.Kind != impl.KdDir && n.Links < 5 && s.next(3) == 0 && s.grownUnder(&t, dirs, number) {
				n.Links++
			}
			switch kind {
			case impl.KdDir:
				n.Up = namedBy(t, number)
				dirs = append(dirs, number)
			case impl.KdLink:
				n.Body = s.body()
			}
		}
		if n.Kind != impl.KdFree {
			n.Owner, n.Group, n.Acl = []int64{0, 1, 5}[s.next(3)], []int64{0, 2, 7}[s.next(3)], s.acl()
		}
	}
	return t
}

func (s *steps) grownUnder(t *impl.Tree, dirs []int64, number int64) bool {
	dir := &t.Nodes[dirs[s.next(len(dirs))]-1]
	name := grownNames[s.next(len(grownNames))]
	if len(dir.Names) == 6 || ownNamed(*dir, name) != 0 {
		return false
	}
	dir.Names = append(dir.Names, at(name, number))
	slices.SortFunc(dir.Names, func(a impl.Entry, b impl.Entry) int { return strings.Compare(a.Name, b.Name) })
	return true
}

func namedBy(t impl.Tree, number int64) int64 {
	return int64(slices.IndexFunc(t.Nodes, func(n impl.Node) bool {
		return slices.ContainsFunc(n.Names, func(e impl.Entry) bool { return e.Node == number })
	})) + 1
}

// Promise 16: paths that are drawn, in trees that are grown.
func TestWaysInGrownTrees(t *testing.T) {
	seen := map[int64]int{}
	s := steps(1616)
	for range 300 {
		tree := s.tree()
		if !impl.TreeRight(tree) || !ownTreeRight(tree) {
			t.Fatalf("a grown tree is right: %+v", tree)
		}
		words := append([]string{".", "..", "", "x"}, wordsOf(tree)[3:]...)
		for range 15 {
			path := s.path(words, 1+s.next(7))
			wantWay(t, tree, path, false, seen)
			wantWay(t, tree, path, true, seen)
		}
	}
	wantAllSeen(t, seen)
}

// Promise 16: each directory is found by its path, and so is each entry in it by its name, by root and wherever one is let in.
func TestRootGoesWhereverThereIsAWay(t *testing.T) {
	s := steps(61)
	trees := append(walkTrees(), rightTrees()...)
	for range 100 {
		trees = append(trees, s.tree())
	}
	for _, tree := range trees {
		for i, n := range tree.Nodes {
			path := strings.TrimSuffix(impl.PathOf(tree, int64(i)+1), "/")
			if n.Kind != impl.KdDir || len(path) > 47 {
				continue
			}
			if got := impl.Walk(tree, asRoot, path+"/", false); got.Code != impl.OK || got.Node != int64(i)+1 {
				t.Errorf("root does not come to %q: %+v", path, got)
			}
			for _, e := range n.Names {
				if got := impl.Walk(tree, asRoot, path+"/"+e.Name, false); got != found(e.Node, int64(i)+1, e.Name) {
					t.Errorf("root does not come to %q in %q: %+v", e.Name, path, got)
				}
			}
		}
	}
}

// Promise 16: who is not let in once is not let in, whatever stands behind.
func TestNobodyIsLetInByWhatStandsBehind(t *testing.T) {
	s := steps(11)
	times := 0
	for range 400 {
		tree := s.tree()
		path := "/" + grownNames[s.next(6)] + "/" + grownNames[s.next(6)]
		for _, c := range walkers() {
			if impl.Walk(tree, c, path, false).Code != impl.ErrAccess {
				continue
			}
			times++
			for _, behind := range []string{"/", "/.", "/..", "/a", "/x/y", "/../..", "/a/b/c/d/e/f/"} {
				for _, follow := range []bool{false, true} {
					if got := impl.Walk(tree, c, path+behind, follow); got != stuck(impl.ErrAccess) {
						t.Errorf("%s, %q: got %+v in %+v", credOwnText(c), path+behind, got, tree)
					}
				}
			}
		}
	}
	if times < 20 {
		t.Errorf("somebody was kept out %d times: too little was asked", times)
	}
}

func TestReachByHand(t *testing.T) {
	rows := []struct {
		tree impl.Tree
		c    impl.Cred
		path string
		may  string // the wants that are let
	}{
		{lane(), asRoot, "/a/b/f", "0246"}, {lane(), asRoot, "/lf", "0246"}, {lane(), asRoot, "/a", "01234567"}, {lane(), asRoot, "/ll/", "01234567"}, {lane(), asRoot, "/x", ""}, {lane(), asRoot, "/ln", ""}, {lane(), asRoot, "/lo", ""},
		{lane(), asRoot, "/lf/", ""}, {lane(), asRoot, "/a/b/f/x", ""}, {lane(), asRoot, "/x/y", ""}, {lane(), asRoot, "a", ""}, {lane(), asRoot, "", ""}, {lane(), asRoot, "/" + part13, ""}, {lane(), asRoot, tooLong, ""}, {lane(), asRoot, "/a/long", ""},
		{lane(), asNamed, "/", "0"}, {lane(), asNamed, "/a/b/f", ""}, {lane(), asOwner, "/", "01234567"}, {lane(), asOwner, "/a/b/f", "0"}, {lane(), asOwner, "/lf", "0"}, {lane(), asOwner, "/la", "01234567"}, {lane(), asMember, "/ll", "0145"},
		{gates(), asOwner, "/to", "0"}, {gates(), asMember, "/to", ""}, {gates(), asNamed, "/nam/in", "0246"}, {gates(), asNamed, "/nam", "01"}, {gates(), asNamed, "/no", "0"}, {gates(), asNamed, "/no/in", ""}, {gates(), asRoot, "/no/in", "0246"},
		{gates(), asRoot, "/no", "01234567"}, {gates(), asOther, "/", "0145"}, {gates(), asOther, "/grp/up", ""}, {gates(), asOther, "/in", "0"},
	}
	for _, r := range rows {
		for want := range int64(8) {
			if got := impl.Reach(r.tree, r.c, r.path, want); got != strings.Contains(r.may, fmt.Sprint(want)) {
				t.Errorf("%s, %.40q, %d: got %v", credOwnText(r.c), r.path, want, got)
			}
		}
		for _, want := range append([]int64{8, 9, 15, 16, 1 << 32}, farNumbers...) {
			if impl.Reach(r.tree, r.c, r.path, want) {
				t.Errorf("%s, %.40q: %d is no bits", credOwnText(r.c), r.path, want)
			}
		}
	}
}

func TestReachIsWhatTheNodeLets(t *testing.T) {
	s := steps(99)
	let, refused := 0, 0
	for range 150 {
		tree := s.tree()
		for range 6 {
			path := s.path(append([]string{".", ".."}, grownNames...), 1+s.next(3))
			for _, c := range walkers() {
				way := ownWalk(tree, c, path, true)
				for want := int64(-1); want <= 8; want++ {
					may := way.Code == impl.OK && way.Node != 0 && want >= 0 && want <= 7 && ownMay(tree.Nodes[way.Node-1], c, want)
					if got := impl.Reach(tree, c, path, want); got != may {
						t.Fatalf("%s, %q, %d: got %v in %+v", credOwnText(c), path, want, got, tree)
					}
					if may {
						let++
					} else {
						refused++
					}
				}
			}
		}
	}
	if let < 100 || refused < 100 {
		t.Errorf("%d were let and %d refused: too little was asked", let, refused)
	}
}

// What is too long is told ahead of a tree or a cred that is not right, and these ahead of what else is wrong with the path.
func TestWalkOfWhatIsNotRight(t *testing.T) {
	paths := []string{"/", "/a", "/x/y", "", "a", "/a b", "/" + part13, strings.Repeat("/", 61), strings.Repeat("x", impl.MaxBytes)}
	ask := func(what string, tree impl.Tree, c impl.Cred) {
		for _, follow := range []bool{false, true} {
			for _, path := range paths {
				if got := impl.Walk(tree, c, path, follow); got != stuck(impl.ErrForm) {
					t.Errorf("%s, %.40q: got %+v", what, path, got)
				}
				if impl.Reach(tree, c, path, 0) || impl.Reach(tree, c, path, 1) || impl.Reach(tree, c, path, math.MinInt64) {
					t.Errorf("%s, %.40q is reached", what, path)
				}
			}
			if got := impl.Walk(tree, c, tooLong, follow); got != stuck(impl.ErrSize) {
				t.Errorf("%s, with a text too long: got %+v", what, got)
			}
		}
		if impl.Reach(tree, c, tooLong, 0) {
			t.Errorf("%s, with a text too long, is reached", what)
		}
	}
	for _, b := range brokenTrees() {
		ask(b.what, b.tree, asRoot)
	}
	for i, c := range wrongCreds() {
		ask(fmt.Sprint("cred ", i), wood(), c)
		ask(fmt.Sprint("cred ", i), impl.Tree{}, c)
		c.Root = !c.Root
		ask(fmt.Sprint("cred ", i), wood(), c)
	}
	ask("very many groups", wood(), impl.Cred{Groups: make([]int64, 100000)})
}

func TestWalkingChangesNothing(t *testing.T) {
	trees := append(walkTrees(), rightTrees()...)
	for _, b := range brokenTogether() {
		trees = append(trees, b.tree)
	}
	c := impl.Cred{Uid: 5, Gid: 7, Groups: []int64{2, 7}}
	for i, tree := range trees {
		before := copyOfTree(tree)
		for _, path := range []string{"/", "/a/b/f", "/la/b/../..", "/lo", "/ll/f/", "/d/l5", "/s/s/w", "x", tooLong} {
			for _, who := range []impl.Cred{asRoot, asOwner, c} {
				first := impl.Walk(tree, who, path, true)
				impl.Walk(tree, who, path, false)
				impl.Reach(tree, who, path, 7)
				if again := impl.Walk(tree, who, path, true); again != first {
					t.Errorf("tree %d, %.40q: %+v, and then %+v", i, path, first, again)
				}
			}
		}
		wantSameTree(t, fmt.Sprint("tree ", i), tree, before)
	}
	if !slices.Equal(c.Groups, []int64{2, 7}) {
		t.Errorf("the cred is now %+v", c)
	}
}

func TestPathsShareNothing(t *testing.T) {
	path := "/la/b/" + name12
	parts := impl.PathParts(path).Parts
	for _, part := range parts {
		if within(part, path) {
			t.Errorf("the part %q lies within the path", part)
		}
	}
	parts[0] = "no"
	if again := impl.PathParts(path).Parts; !reflect.DeepEqual(again, []string{"la", "b", name12}) {
		t.Errorf("what was told is kept: %q", again)
	}
	tree := lane()
	for name, whole := range map[string]string{impl.Walk(tree, asRoot, path, false).Name: path, impl.Walk(tree, asRoot, "/a/long", true).Name: tree.Nodes[11].Body, impl.Walk(tree, asRoot, "/ln", true).Name: tree.Nodes[7].Body} {
		if name == "" || within(name, whole) {
			t.Errorf("the name %q lies within %q", name, whole)
		}
	}
}
