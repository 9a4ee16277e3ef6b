package tests

import (
	"fmt"
	"slices"
	"strings"
	"testing"

	"loop.example/g00622/impl"
)

// Promise 24: of drawn desks, line by line, and of what is none.
func TestEachLineOfADeskTellsALine(t *testing.T) {
	s := steps(24)
	seen := map[string]int{}
	none := noDeskLines()
	for range 250 {
		lines := s.deskLines([]int{0, 1, 2, 5, 12, 39, 40, 40}[s.next(8)])
		all := impl.DeskRun(deskOf(lines))
		told := strings.SplitAfter(all.Text, "\n")
		if all.Code != impl.OK || all.Line != 0 || len(told) != len(lines)+1 || told[len(lines)] != "" {
			t.Fatalf("%q: got %+v", lines, all)
		}
		for i, line := range lines {
			word, _, _ := strings.Cut(line, " ")
			seen[fmt.Sprint(word, " ", strings.HasPrefix(told[i], "error "))]++
			if told[i] == "\n" {
				t.Fatalf("%q: the line %d tells nothing", lines, i)
			}
		}
		for count := range len(lines) + 1 {
			wantDesk(t, deskOf(lines[:count]), impl.DeskOut{Text: strings.Join(told[:count], "")})
		}
		// With a line that is none nothing is told, wherever it stands: not of the ones ahead of it, either.
		for at := range int64(len(lines)) {
			spoiled := slices.Clone(lines)
			spoiled[at] = none[s.next(len(none))]
			wantNoDesk(t, at, spoiled...)
		}
		if len(lines) > 0 {
			text := deskOf(lines)
			wantDesk(t, text[:len(text)-1], impl.DeskOut{Line: int64(len(lines) - 1), Code: impl.ErrSyntax})
		}
		if t.Failed() {
			t.FailNow()
		}
	}
	for _, what := range []string{"as false", "umask false", "do false", "do true", "nfs false", "nfs true"} {
		if seen[what] < 100 {
			t.Errorf("%s came %d times: too little was asked", what, seen[what])
		}
	}
}

// classNamed says by which of a list's places somebody is asked.
func classNamed(a impl.Acl, owner int64, group int64, c impl.Cred) string {
	switch {
	case c.Root:
		return "root"
	case c.Uid == owner:
		return "the owner"
	case slices.ContainsFunc(a.Users, func(n impl.Named) bool { return n.Id == c.Uid }):
		return "one who is named"
	case ownMember(c, group):
		return "the group"
	case slices.ContainsFunc(a.Groups, func(n impl.Named) bool { return ownMember(c, n.Id) }):
		return "a group that is named"
	}
	return "others"
}

var classNames = []string{"root", "the owner", "one who is named", "the group", "a group that is named", "others"}

// drawnAcl has bits of its own at each place, and names of those who ask.
func (s *steps) drawnAcl() impl.Acl {
	bits := func() int64 { return int64(s.next(8)) }
	a := impl.Acl{User: bits(), Group: bits(), Other: bits()}
	for _, id := range []int64{1, 5, 6, 9} {
		if s.next(3) == 0 {
			a.Users = append(a.Users, impl.Named{Id: id, Bits: bits()})
		}
	}
	for _, id := range []int64{2, 7, 8} {
		if s.next(3) == 0 {
			a.Groups = append(a.Groups, impl.Named{Id: id, Bits: bits()})
		}
	}
	if len(a.Users)+len(a.Groups) > 0 || s.next(3) == 0 {
		a.Masked, a.Mask = true, []int64{7, 7, bits()}[s.next(3)]
	}
	return a
}

// inTime takes a tree back to where there is time left.
func inTime(t impl.Tree) impl.Tree {
	t = copyOfTree(t)
	t.Now = min(t.Now, 5000)
	for i := range t.Nodes {
		t.Nodes[i].Tick = min(t.Nodes[i].Tick, t.Now)
	}
	return t
}

// makersAndOthers are those who make something, and those who ask for it.
func makersAndOthers() (makers []impl.Cred, others []impl.Cred) {
	makers = []impl.Cred{{Uid: 1, Gid: 2}, {Uid: 5, Gid: 7, Groups: []int64{2, 9}}, {Uid: 0, Gid: 8}, {Uid: 6, Gid: 2, Root: true}}
	return makers, append(walkers(), impl.Cred{Uid: 6, Gid: 2}, impl.Cred{Uid: 3, Gid: 8, Groups: []int64{2, 7}}, impl.Cred{Uid: 5, Gid: 3, Root: true}, impl.Cred{Uid: 3, Gid: 3})
}

// madeBy draws lines by which somebody makes something of a name in the top, and the list that it has then.
func (s *steps) madeBy(word string) (lines []string, a impl.Acl) {
	mode, umask := int64(s.next(512)), int64(s.next(512))
	octal := func(mode int64) string { return fmt.Sprintf("%04o", mode) }
	line := "do " + word + " " + octal(mode) + " /x"
	switch s.next(4) {
	case 0:
		return []string{"umask " + octal(umask), line}, impl.AclOf(mode &^ umask)
	case 1:
		a = s.drawnAcl()
		return []string{line, "do setacl " + aclOwnText(a) + " /x"}, a
	case 2:
		a = s.drawnAcl()
		other := int64(s.next(512))
		return []string{line, "do setacl " + aclOwnText(a) + " /x", "do chmod " + octal(other) + " /x"}, ownThree(a, other, func(had int64, of int64) int64 { return of })
	}
	a = s.drawnAcl()
	return []string{"as 0:0:*", "do default " + aclOwnText(a) + " /", "", line}, ownThree(a, mode, func(had int64, of int64) int64 { return had & of })
}

// Promise 25 at a desk: what one makes another one may do with just what its list says.
func TestWhatOneMakesAnotherMayDoAtADesk(t *testing.T) {
	s := steps(25)
	makers, others := makersAndOthers()
	seen := map[string]int{}
	for i := range 2500 {
		maker, other := makers[s.next(len(makers))], others[s.next(len(others))]
		word := []string{"mkdir", "create"}[i%2]
		made, a := s.madeBy(word)
		lines := append([]string{"do chmod 0777 /", "as " + credOwnText(maker)}, made...)
		if at := slices.Index(lines, ""); at >= 0 {
			lines[at] = "as " + credOwnText(maker)
		}
		n := impl.Node{Kind: impl.KdDir + int64(i%2), Owner: maker.Uid, Group: maker.Gid, Acl: a}
		class := classNamed(a, maker.Uid, maker.Gid, other)
		want := []string{}
		tell := func(line string, may bool, yes string, no string) {
			lines = append(lines, line)
			want = append(want, map[bool]string{true: yes, false: no}[may])
			seen[fmt.Sprint(class, " ", may)]++
		}
		lines = append(lines, "as "+credOwnText(other), "umask 0000")
		want = append(want, "ok", "ok")
		for bits := range int64(8) {
			tell("do access "+bitsOwnTexts[bits]+" /x", ownMay(n, other, bits), "yes", "no")
		}
		if n.Kind == impl.KdDir {
			tell("do list /x", ownMay(n, other, 4), "-", "error 11")
			tell("do stat /x/.", ownMay(n, other, 1), "d"+modeOwnText(int(impl.ModeOf(a)))+fmt.Sprintf(" %d %d 1", maker.Uid, maker.Gid), "error 11")
			// To make something there one has to be let in, too.
			tell("do create 0600 /x/y", ownMay(n, other, 1) && ownMay(n, other, 3), "3", "error 11")
		}
		tell("do setacl "+aclOwnText(a)+" /x", other.Root || other.Uid == maker.Uid, "ok", "error 16")
		got := impl.DeskRun(deskOf(lines))
		if told := strings.Split(got.Text, "\n"); got.Code != impl.OK || !slices.Equal(told[len(lines)-len(want):len(lines)], want) || strings.Contains(strings.Join(told[:len(lines)-len(want)], " "), "error") {
			t.Fatalf("%q: got %+v, want %q at the end", lines, got, want)
		}
	}
	wantEachClass(t, seen)
}

func wantEachClass(t *testing.T, seen map[string]int) {
	t.Helper()
	for _, class := range classNames {
		for _, may := range []bool{true, false} {
			if count := seen[fmt.Sprint(class, " ", may)]; count < 100 && (class != "root" || may) {
				t.Errorf("%s may (%v) %d times: too little was asked", class, may, count)
			}
		}
	}
}

// Promise 25, of trees that are drawn: what is made somewhere in them is asked for by another one, on whatever way.
func TestWhatOneMakesAnotherMayDoInTrees(t *testing.T) {
	s := steps(2525)
	makers, others := makersAndOthers()
	seen := map[string]int{}
	ways := map[int64]int{}
	for range 1500 {
		tree := inTime(s.opened())
		maker, path := makers[s.next(len(makers))], s.toward(tree)
		made := impl.Create(tree, maker, path, 0o777, 0)
		if s.next(2) == 0 {
			made = impl.Mkdir(tree, maker, path, 0o777, 0)
		}
		if made.Code != impl.OK {
			continue
		}
		after := made.Tree
		if set := impl.SetAcl(after, maker, path, s.drawnAcl()); set.Code == impl.OK && s.next(4) > 0 {
			after = set.Tree
		}
		n := after.Nodes[made.Node-1]
		for _, other := range others {
			way := ownWalk(after, other, path, true)
			ways[way.Code]++
			class := classNamed(n.Acl, n.Owner, n.Group, other)
			for want := range int64(8) {
				code := way.Code
				if code == impl.OK && !ownMay(n, other, want) {
					code = impl.ErrAccess
				}
				if got := impl.Access(after, other, path, want); got != code || n.Owner != maker.Uid {
					t.Fatalf("%q made by %+v, asked by %+v for %d, in %+v: got %d, want %d", path, maker, other, want, after, got, code)
				}
				if way.Code == impl.OK {
					seen[fmt.Sprint(class, " ", code == impl.OK)]++
				}
			}
		}
	}
	wantEachClass(t, seen)
	if ways[impl.OK] < 1000 || ways[impl.ErrAccess] < 20 {
		t.Errorf("the ways ended with %v: too little was asked", ways)
	}
}

// Promise 25 by hand: each class at its own bits, which are not those of the class that comes behind it.
func TestEachClassByHand(t *testing.T) {
	list := "user::r--,user:5:-w-,group::--x,group:7:rw-,mask::rwx,other::r-x"
	rows := map[string]string{"1:9:": "r--", "1:2:7": "r--", "5:9:": "-w-", "5:2:": "-w-", "5:9:7": "-w-", "9:2:": "--x", "9:9:2": "--x", "9:7:": "rw-", "9:9:7": "rw-", "9:9:": "r-x", "0:0:": "r-x", "9:9:*": "rwx", "0:0:*": "rwx"}
	for _, word := range []string{"create", "mkdir"} {
		for cred, may := range rows {
			made := []deskRow{{"do chmod 0777 /", "ok"}, {"as 1:2:", "ok"}, {"do " + word + " 0777 /x", "2"}, {"do setacl " + list + " /x", "ok"}, {"as " + cred, "ok"}}
			for _, bits := range bitsOwnTexts {
				told := "yes"
				for i, sign := range bits {
					if sign != '-' && byte(sign) != may[i] {
						told = "no"
					}
				}
				made = append(made, deskRow{"do access " + bits + " /x", told})
			}
			wantRows(t, made...)
		}
	}
	// By two groups one may each thing alone, and not both together.
	wantRows(t, deskRow{"do chmod 0777 /", "ok"}, deskRow{"as 1:2:", "ok"}, deskRow{"do create 0777 /x", "2"}, deskRow{"do setacl " + list + " /x", "ok"}, deskRow{"as 9:2:7", "ok"}, deskRow{"do access --x /x", "yes"}, deskRow{"do access rw- /x", "yes"}, deskRow{"do access r-x /x", "no"}, deskRow{"do access rwx /x", "no"})
	// What nobody may run root runs neither; a directory root enters nevertheless.
	wantRows(t, deskRow{"do create 0666 /x", "2"}, deskRow{"do access --x /x", "no"}, deskRow{"do access rw- /x", "yes"}, deskRow{"do mkdir 0000 /d", "3"}, deskRow{"do access rwx /d", "yes"}, deskRow{"do create 0000 /d/f", "4"}, deskRow{"do access rw- /d/f", "yes"}, deskRow{"do access --x /d/f", "no"})
}

// Promise 25: a name put into the list, and its mask, let one in; the mask alone, or the name gone, keeps one out.
func TestANameAndItsMaskLetOneIn(t *testing.T) {
	s := steps(252)
	maker := impl.Cred{Uid: 1, Gid: 2}
	for range 600 {
		a := s.drawnAcl()
		a.Other = 0
		a.Users = slices.DeleteFunc(a.Users, func(n impl.Named) bool { return n.Id == 9 })
		a.Groups = slices.DeleteFunc(a.Groups, func(n impl.Named) bool { return n.Id == 9 })
		other := impl.Cred{Uid: 9, Gid: 3, Groups: []int64{9}}
		bits, mask := int64(s.next(8)), int64(s.next(8))
		put, drop := impl.PutUser, impl.DropUser
		if s.next(2) == 0 {
			put, drop = impl.PutGroup, impl.DropGroup
		}
		named := put(a, 9, bits)
		narrow := impl.SetMask(named.Acl, mask)
		gone := drop(named.Acl, 9)
		if named.Code != impl.OK || narrow.Code != impl.OK || gone.Code != impl.OK {
			t.Fatalf("%+v: %+v, %+v, %+v", a, named, narrow, gone)
		}
		text := deskOf([]string{"do chmod 0777 /", "as " + credOwnText(maker), "do mkdir 0777 /x"})
		told := "ok\nok\n2\n"
		for _, step := range []struct {
			list impl.Acl
			may  int64
		}{{a, 0}, {named.Acl, bits}, {narrow.Acl, bits & mask}, {gone.Acl, 0}} {
			one, tells := text, told
			one += "as " + credOwnText(maker) + "\ndo setacl " + impl.AclText(step.list) + " /x\nas " + credOwnText(other) + "\n"
			tells += "ok\nok\nok\n"
			for want := range int64(8) {
				one += "do access " + bitsOwnTexts[want] + " /x\n"
				tells += map[bool]string{true: "yes\n", false: "no\n"}[step.may&want == want]
			}
			one += "do list /x\ndo create 0600 /x/y\n"
			tells += map[bool]string{true: "-\n", false: "error 11\n"}[step.may&4 != 0] + map[bool]string{true: "3\n", false: "error 11\n"}[step.may&3 == 3]
			wantDesk(t, one, impl.DeskOut{Text: tells})
			if got := impl.DeskRun(one); t.Failed() {
				t.Fatalf("%+v by %+v: got %+v", step, other, got)
			}
		}
	}
}

// stickied draws a tree in which everybody may change all names, and some directories are sticky.
func (s *steps) stickied() impl.Tree {
	t := inTime(s.opened())
	for i := range t.Nodes {
		n := &t.Nodes[i]
		if n.Kind == impl.KdDir {
			n.Acl, n.Extra = impl.AclOf(0o777), n.Extra|int64(s.next(2))
		}
	}
	return t
}

// isKept tells whether a sticky directory keeps a name from somebody.
func isKept(t impl.Tree, x spot, c impl.Cred) bool {
	dir := t.Nodes[x.dir-1]
	return dir.Extra%2 == 1 && !c.Root && c.Uid != dir.Owner && c.Uid != t.Nodes[ownNamed(dir, x.name)-1].Owner
}

// Promise 25: from a sticky directory nobody but root, its owner and the Node's owner takes a name away, or moves it.
func TestStickyDirectoriesKeepNames(t *testing.T) {
	s := steps(253)
	seen := map[string]int{}
	for range 400 {
		tree := s.stickied()
		all := spots(tree)
		for _, x := range all {
			path := pathTo(tree, x)
			node := ownNamed(tree.Nodes[x.dir-1], x.name)
			dir := tree.Nodes[node-1].Kind == impl.KdDir
			for _, c := range askers() {
				take := impl.Unlink
				if dir {
					take = impl.Rmdir
				}
				from := all[s.next(len(all))]
				for what, got := range map[string]impl.TreeOut{"taken": take(tree, c, path), "moved": impl.Rename(tree, c, path, pathTo(tree, spot{x.dir, "zz"})), "moved away": impl.Rename(tree, c, path, "/zz"), "moved upon": impl.Rename(tree, c, pathTo(tree, from), path)} {
					kept := isKept(tree, x, c)
					upon := what == "moved upon" && ownNamed(tree.Nodes[from.dir-1], from.name) == node
					switch {
					case kept && got.Code == impl.OK && !upon:
						t.Fatalf("%q is %s by %+v in %+v", path, what, c, tree)
					case kept && got.Code != impl.ErrOwner && what != "moved upon":
						t.Fatalf("%q is %s by %+v in %+v: the code %d, want ErrOwner", path, what, c, tree, got.Code)
					case !kept && got.Code == impl.ErrOwner && (what != "moved upon" || !isKept(tree, from, c)):
						t.Fatalf("%q is not %s by %+v in %+v", path, what, c, tree)
					case !kept && what == "taken" && (got.Code == impl.OK) != (len(tree.Nodes[node-1].Names) == 0):
						t.Fatalf("%q is taken by %+v in %+v: the code %d", path, c, tree, got.Code)
					case !kept && what == "moved" && got.Code != impl.OK:
						t.Fatalf("%q is moved by %+v in %+v: the code %d", path, c, tree, got.Code)
					}
					seen[fmt.Sprint(what, " ", kept, " ", got.Code)]++
				}
			}
		}
	}
	for _, what := range []string{"taken true 16", "taken false 0", "moved true 16", "moved false 0", "moved away true 16", "moved away false 0", "moved upon true 16", "moved upon false 0"} {
		if seen[what] < 100 {
			t.Errorf("%s came %d times: too little was asked", what, seen[what])
		}
	}
}

// Promise 25, of whatever line: the names that are kept from somebody are still there, and of the same nodes.
func TestNoLineTakesANameThatIsKept(t *testing.T) {
	s := steps(254)
	all := askers()[1:]
	kept, done := 0, map[string]int{}
	for range 400 {
		tree := s.stickied()
		for range 25 {
			c, word := all[s.next(len(all))], scriptWords[s.next(len(scriptWords))]
			line := s.lineAt(tree, word, c)
			got := impl.LineDo(tree, c, 0, line)
			if got.Code != impl.OK {
				continue
			}
			done[word]++
			for _, x := range spots(tree) {
				if !isKept(tree, x, c) {
					continue
				}
				kept++
				if was, is := ownNamed(tree.Nodes[x.dir-1], x.name), ownNamed(got.Tree.Nodes[x.dir-1], x.name); was != is {
					t.Fatalf("%s by %+v in %+v: %q in %d was %d, and is %d", shownLine(line), c, tree, x.name, x.dir, was, is)
				}
			}
			tree = got.Tree
		}
	}
	if kept < 1000 || done["unlink"] < 30 || done["rmdir"] < 10 || done["rename"] < 30 {
		t.Errorf("%d names were kept, done %v: too little was asked", kept, done)
	}
}

func TestStickyDirectoriesAtADesk(t *testing.T) {
	made := []deskRow{{"do chmod 1777 /", "ok"}, {"do chown 3 3 /", "ok"}, {"umask 0000", "ok"}, {"as 5:7:", "ok"}, {"do create 0777 /a", "2"}, {"do mkdir 0777 /d", "3"}, {"do symlink a /l", "4"}}
	no := []deskRow{{"do unlink /a", "error 16"}, {"do unlink /l", "error 16"}, {"do rmdir /d", "error 16"}, {"do rename /a /b", "error 16"}, {"do rename /a /d/b", "error 16"}, {"do rename /d /e", "error 16"}, {"do create 0600 /m", "5"}, {"do rename /m /a", "error 16"}, {"do rename /m /n", "ok"}, {"do unlink /n", "ok"}, {"do link /a /m", "ok"}, {"do unlink /m", "error 16"}, {"do list /", "a,d,l,m"}}
	yes := []deskRow{{"do create 0600 /m", "5"}, {"do rename /m /a", "ok"}, {"do rename /a /b", "ok"}, {"do rename /b /d/b", "ok"}, {"do unlink /d/b", "ok"}, {"do unlink /l", "ok"}, {"do rename /d /e", "ok"}, {"do rmdir /e", "ok"}, {"do list /", "-"}}
	for cred, rest := range map[string][]deskRow{"9:9:": no, "0:0:": no, "9:7:": no, "9:3:": no, "9:9:3,7": no, "5:9:": yes, "3:9:": yes, "9:9:*": yes, "0:0:*": yes} {
		wantRows(t, slices.Concat(made, []deskRow{{"as " + cred, "ok"}}, rest)...)
	}
	// Without it everybody may.
	for _, cred := range []string{"9:9:", "0:0:", "5:9:", "3:9:", "9:9:*"} {
		wantRows(t, slices.Concat(made, []deskRow{{"as 3:3:", "ok"}, {"do chmod 0777 /", "ok"}, {"as " + cred, "ok"}}, yes)...)
	}
}

// Promise 25: a link leads where its Body says, from the directory that it is in.
func TestALinkLeadsWhereItSays(t *testing.T) {
	s := steps(255)
	codes, skipped := map[int64]int{}, 0
	for range 2500 {
		tree := inTime(s.opened())
		body, dirs := s.body(), spots(tree)
		dir := "/"
		if x := s.next(len(dirs) + 1); x < len(dirs) {
			dir = impl.PathOf(tree, dirs[x].dir)
		}
		link, straight := strings.TrimSuffix(dir, "/")+"/ln", strings.TrimSuffix(dir, "/")+"/"+body
		if body[0] == '/' {
			straight = body
		}
		straight = "/" + strings.Trim(straight, "/")
		made := impl.Symlink(tree, asRoot, body, link)
		if made.Code != impl.OK || strings.Contains(body, part13) {
			skipped++
			continue
		}
		for _, c := range askers() {
			in := impl.Walk(made.Tree, c, link, false)
			got, want := impl.Walk(made.Tree, c, link, true), impl.Walk(made.Tree, c, straight, true)
			if own := ownWalk(made.Tree, c, link, true); got != own {
				t.Fatalf("%q by %+v in %+v: got %+v, want %+v", link, c, made.Tree, got, own)
			}
			switch {
			case in.Code != impl.OK:
				want = in // what does not let one come to the link
			case in.Node != made.Node:
				t.Fatalf("%q by %+v in %+v: the link is not there, but %+v", link, c, made.Tree, in)
			case got.Code == impl.ErrLoop:
				want = got // one link more than straight on may be one too many
			}
			if got != want {
				t.Fatalf("%q, a link to %q, by %+v in %+v: got %+v, want %+v", link, body, c, made.Tree, got, want)
			}
			codes[got.Code]++
		}
	}
	if codes[impl.OK] < 2000 || codes[impl.ErrNone] < 500 || codes[impl.ErrAccess] < 200 || codes[impl.ErrNotDir] < 20 || skipped > 1800 {
		t.Errorf("the codes came %v, %d were left out: too little was asked", codes, skipped)
	}
}

// Promise 25: a circle of links is refused, of however many and wherever one begins; what comes of a chain hangs on how long it is.
func TestCirclesOfLinksAtADesk(t *testing.T) {
	place := func(i int) string { return []string{"/", "/d/"}[min(i/4, 1)] + fmt.Sprint("l", i) }
	towards := func(from int, path string, kind int) string {
		near := strings.TrimPrefix(path, "/")
		if from >= 4 {
			near = "../" + near
		}
		return []string{path, near, "/d/.." + path}[kind]
	}
	for count := 1; count <= 9; count++ {
		for kind := range 3 {
			for end := range count + 1 {
				lines, told := []string{"do mkdir 0777 /d", "do create 0644 /f"}, []string{"2", "3"}
				for i := range count {
					to := place(i + 1)
					if i == count-1 {
						to = append([]string{"/f"}, place(0), place(1), place(2), place(3), place(4), place(5), place(6), place(7), place(8))[end]
					}
					lines = append(lines, "do symlink "+towards(i, to, kind)+" "+place(i))
					told = append(told, fmt.Sprint(4+i))
				}
				for i := range count {
					way := []string{"error 14", "error 14", "error 14"}
					if end == 0 && count-i <= 8 {
						way = []string{"-rw-r--r-- 0 0 1", "A::OWNER@:rwa,D::OWNER@:x,A::GROUP@:r,D::GROUP@:wxa,A::EVERYONE@:r", "error 12"}
					}
					lines = append(lines, "do stat "+place(i), "nfs "+place(i), "do list "+place(i))
					told = append(told, way...)
				}
				// The link itself stays what it is.
				lines = append(lines, "do lstat "+place(0))
				told = append(told, "lrwxrwxrwx 0 0 1")
				wantDesk(t, deskOf(lines), impl.DeskOut{Text: deskOf(told)})
			}
		}
	}
	wantRows(t, deskRow{"do symlink b /a", "2"}, deskRow{"do symlink a /b", "3"}, deskRow{"nfs /a", "error 14"}, deskRow{"nfs /b/", "error 14"}, deskRow{"do stat /a", "error 14"}, deskRow{"do access --- /b", "error 14"}, deskRow{"do list /a/x", "error 14"}, deskRow{"do getacl /a", "error 14"}, deskRow{"do chmod 0777 /a", "error 14"}, deskRow{"do create 0644 /a/", "error 14"}, deskRow{"do create 0644 /a", "error 7"},
		deskRow{"as 5:5:", "ok"}, deskRow{"nfs /a", "error 14"}, deskRow{"as 0:0:*", "ok"}, deskRow{"do unlink /b", "ok"}, deskRow{"nfs /a", "error 6"}, deskRow{"do create 0600 /b", "3"}, deskRow{"do stat /a", "-rw------- 0 0 1"}, deskRow{"do symlink / /r", "4"}, deskRow{"do stat /r/r/r/r/r/r/r/r", "drwxr-xr-x 0 0 1"}, deskRow{"do stat /r/r/r/r/r/r/r/r/r", "error 14"})
}
