package tests

import (
	"fmt"
	"math"
	"reflect"
	"slices"
	"strings"
	"testing"

	"loop.example/g00622/impl"
)

// wantChanged asks for what is told of a line that changes something, beside the tree of the call that it names.
func wantChanged(t *testing.T, tree impl.Tree, c impl.Cred, umask int64, line string, told string, call impl.TreeOut) {
	t.Helper()
	if call.Code != impl.OK || reflect.DeepEqual(copyOfTree(call.Tree), copyOfTree(tree)) {
		t.Errorf("%s: its call answers %+v", shownLine(line), call)
	}
	wantLine(t, tree, c, umask, line, impl.LineOut{Tree: call.Tree, Told: told})
}

// wantLooked asks for what is told of a line that changes nothing: the tree is what it was, the time, too.
func wantLooked(t *testing.T, tree impl.Tree, c impl.Cred, line string, told string) {
	t.Helper()
	wantLine(t, tree, c, 0o022, line, impl.LineOut{Tree: tree, Told: told})
}

// Each word by hand: what it does is what its call does, with the words in their places.
func TestEachWordByHand(t *testing.T) {
	list := masked(named(5, 6, 8, 3), named(7, 1), 6)
	text := "user::rw-,user:5:rw-,user:8:-wx,group::r--,group:7:--x,mask::rw-,other::--x"
	for _, c := range []impl.Cred{asRoot, asOwner} {
		for _, tree := range []impl.Tree{yard(), changed(yard(), func(t *impl.Tree) { t.Nodes[1].Extra, t.Nodes[1].Shared, t.Nodes[1].Default = 2, true, list })} {
			for _, umask := range []int64{0, 0o022, 0o777, 4095} {
				wantChanged(t, tree, c, umask, "mkdir 0777 /d/n", "10", impl.Mkdir(tree, c, "/d/n", 0o777, umask))
				wantChanged(t, tree, c, umask, "mkdir 7531 /n/", "10", impl.Mkdir(tree, c, "/n", 0o7531, umask))
				wantChanged(t, tree, c, umask, "create 0666 /ld/n", "10", impl.Create(tree, c, "/d/n", 0o666, umask))
				wantChanged(t, tree, c, umask, "create 0000 /n", "10", impl.Create(tree, c, "/n", 0, umask))
				wantChanged(t, tree, c, umask, "symlink /d/none /n", "10", impl.Symlink(tree, c, "/d/none", "/n"))
				wantChanged(t, tree, c, umask, "link /f /d/n", "ok", impl.Link(tree, c, "/f", "/d/n"))
				wantChanged(t, tree, c, umask, "unlink /d/g", "ok", impl.Unlink(tree, c, "/d/g"))
				wantChanged(t, tree, c, umask, "rmdir /d/e", "ok", impl.Rmdir(tree, c, "/d/e"))
				wantChanged(t, tree, c, umask, "rename /f /d/g", "ok", impl.Rename(tree, c, "/f", "/d/g"))
				wantChanged(t, tree, c, umask, "rename /d/g /n", "ok", impl.Rename(tree, c, "/d/g", "/n"))
				wantChanged(t, tree, c, umask, "chmod 1750 /ld", "ok", impl.Chmod(tree, c, "/d", 0o1750))
				wantChanged(t, tree, c, umask, "chown 1 9 /d", "ok", impl.Chown(tree, c, "/d", 1, 9))
				wantChanged(t, tree, c, umask, "setacl "+text+" /d/e", "ok", impl.SetAcl(tree, c, "/d/e", list))
				wantChanged(t, tree, c, umask, "default "+text+" /d/e", "ok", impl.SetDefault(tree, c, "/d/e", true, list))
				wantChanged(t, tree, c, umask, "share /d", "ok", impl.SetDefault(tree, c, "/d", false, impl.Acl{}))
			}
		}
	}
	wantChanged(t, yard(), asRoot, 0, "chown 0 9999 /f", "ok", impl.Chown(yard(), asRoot, "/f", 0, 9999))
	wantChanged(t, yard(), asRoot, 0, "chown 9999 0 /lf", "ok", impl.Chown(yard(), asRoot, "/d/g", 9999, 0))
	// The number of what is made: the first free one, of two digits, too.
	tree := impl.TreeNew(0, 0, 0o777).Tree
	wantChanged(t, tree, asOther, 0, "create 0600 /a", "2", impl.Create(tree, asOther, "/a", 0o600, 0))
	last := changed(yard(), func(t *impl.Tree) {
		t.Nodes[9], t.Nodes[10] = fileNode(1), fileNode(1)
		t.Nodes[2].Names = []impl.Entry{at("1", 10), at("2", 11)}
	})
	wantChanged(t, last, asRoot, 0, "symlink x /d/e/n", "12", impl.Symlink(last, asRoot, "x", "/d/e/n"))
}

// What is set by a line, field by field and without asking the call.
func TestLinesSetWhatTheySay(t *testing.T) {
	at21 := func(number int64, change func(n *impl.Node)) impl.Tree {
		return changed(yard(), func(t *impl.Tree) {
			t.Now, t.Nodes[number-1].Tick = 21, 21
			change(&t.Nodes[number-1])
		})
	}
	one := impl.Acl{User: 7, Group: 5, Users: named(5, 4), Masked: true, Mask: 5}
	for line, want := range map[string]impl.Tree{
		"chmod 6421 /f":    at21(4, func(n *impl.Node) { n.Extra, n.Acl = 6, impl.Acl{User: 4, Group: 2, Other: 1} }),
		"chown 123 45 /lf": at21(5, func(n *impl.Node) { n.Owner, n.Group = 123, 45 }),
		"setacl user::rwx,user:5:r--,group::r-x,mask::r-x,other::--- /f": at21(4, func(n *impl.Node) { n.Acl = one }),
		"default user::rwx,user:5:r--,group::r-x,mask::r-x,other::--- /": at21(1, func(n *impl.Node) { n.Shared, n.Default = true, one }),
		"default user::---,group::---,other::--- /d":                     at21(2, func(n *impl.Node) { n.Shared = true }),
		"share /d/e": at21(3, func(n *impl.Node) {}),
	} {
		wantLine(t, yard(), asRoot, 0o777, line, impl.LineOut{Tree: want, Told: "ok"})
	}
}

func TestAccessIsToldAsYesOrNo(t *testing.T) {
	tree := changed(yard(), func(t *impl.Tree) {
		t.Nodes[3].Acl = impl.Acl{User: 7, Group: 5, Other: 2}
		t.Nodes[2].Acl = impl.AclOf(0o700)
	})
	for want, bits := range bitsOwnTexts {
		for path, may := range map[string]int{"/f": 2, "/d": 7, "/ld": 7, "/d/e": 0, "/": 7} {
			told := "no"
			if want&may == want {
				told = "yes"
			}
			wantLooked(t, tree, asOther, "access "+bits+" "+path, told)
			if (told == "yes") != (impl.Access(tree, asOther, path, int64(want)) == impl.OK) {
				t.Errorf("%s %s: Access says something else", bits, path)
			}
		}
		// Also where the way does not let one in; but another code is told as it is.
		wantLooked(t, tree, asOther, "access "+bits+" /d/e/x", "no")
		wantLooked(t, tree, asOther, "access "+bits+" /d/e/../f", "no")
		wantLineCode(t, tree, asOther, 0, "access "+bits+" /none", impl.ErrNone)
		wantLineCode(t, tree, asOther, 0, "access "+bits+" /ln", impl.ErrNone)
		wantLineCode(t, tree, asOther, 0, "access "+bits+" /f/x", impl.ErrNotDir)
		wantLineCode(t, tree, asOther, 0, "access "+bits+" /d/lo", impl.ErrLoop)
		wantLineCode(t, tree, asOther, 0, "access "+bits+" f", impl.ErrForm)
		wantLineCode(t, tree, asOther, 0, "access "+bits+" /"+part13, impl.ErrRange)
	}
}

// Each mode of each kind, with links of one to five and ids of one to four digits.
func TestLinesOfStat(t *testing.T) {
	for mode := range int64(4096) {
		tree := changed(yard(), func(t *impl.Tree) {
			for _, number := range []int64{2, 5, 6} {
				n := &t.Nodes[number-1]
				n.Extra, n.Acl = mode/512, impl.AclOf(mode%512)
				n.Owner, n.Group = []int64{0, 7, 10, 999, 9999}[mode%5], []int64{9999, 100, 0, 12}[mode%4]
			}
			if more := mode % 5; more > 0 {
				t.Nodes[2].Names, t.Nodes[4].Links = []impl.Entry{at("1", 5), at("2", 5), at("3", 5), at("4", 5)}[:more], 1+more
			}
		})
		signs := modeOwnText(int(mode))
		ids := fmt.Sprintf(" %d %d", tree.Nodes[1].Owner, tree.Nodes[1].Group)
		wantLooked(t, tree, asRoot, "stat /d", "d"+signs+ids+" 1")
		wantLooked(t, tree, asRoot, "lstat /d", "d"+signs+ids+" 1")
		wantLooked(t, tree, asRoot, "stat /ld", "d"+signs+ids+" 1")
		wantLooked(t, tree, asRoot, "lstat /ld", "l"+signs+ids+" 1")
		wantLooked(t, tree, asRoot, "lstat /ld/", "d"+signs+ids+" 1")
		links := fmt.Sprint(" ", 1+mode%5)
		wantLooked(t, tree, asRoot, "stat /d/g", "-"+signs+ids+links)
		wantLooked(t, tree, asRoot, "lstat /d/g", "-"+signs+ids+links)
		wantLooked(t, tree, asRoot, "stat /lf", "-"+signs+ids+links)
		if t.Failed() {
			t.Fatalf("at the mode %o", mode)
		}
	}
	for line, told := range map[string]string{
		"stat /": "drwxrwxrwx 1 2 1", "lstat /": "drwxrwxrwx 1 2 1", "stat /f": "-rw-r----- 5 7 1", "lstat /f": "-rw-r----- 5 7 1", "lstat /ln": "lrwxrwxrwx 5 7 1", "lstat /d/lo": "lrwxrwxrwx 5 7 1", "lstat /lf": "lrwxrwxrwx 5 7 1", "stat /lf": "-rw-r----- 5 7 1",
	} {
		wantLooked(t, yard(), asOther, line, told)
	}
	for line, told := range map[string]string{"stat /f": "-rwSr-s--T 5 7 1", "stat /d": "drwsrwSrwt 1 2 1"} {
		wantLooked(t, changed(yard(), func(t *impl.Tree) {
			t.Nodes[3].Extra, t.Nodes[3].Acl = 7, impl.AclOf(0o650)
			t.Nodes[1].Extra, t.Nodes[1].Acl = 7, impl.AclOf(0o767)
		}), asRoot, line, told)
	}
	// Of a masked list the group's signs are the mask's.
	wantLooked(t, changedNode(yard(), 4, func(n *impl.Node) { n.Acl = masked(named(5, 7), nil, 3) }), asOther, "stat /f", "-rw--wx--x 5 7 1")
	for line, code := range map[string]int64{"stat /ln": impl.ErrNone, "stat /d/lo": impl.ErrLoop, "lstat /ln/": impl.ErrNone, "lstat /lf/": impl.ErrNotDir, "lstat /none": impl.ErrNone, "stat x": impl.ErrForm} {
		wantLineCode(t, yard(), asOther, 0, line, code)
	}
}

func TestLinesOfNames(t *testing.T) {
	with := func(names ...string) impl.Tree {
		return changed(yard(), func(t *impl.Tree) {
			for _, name := range names {
				t.Nodes[2].Names = append(t.Nodes[2].Names, at(name, 4))
				t.Nodes[3].Links++
			}
		})
	}
	wantLooked(t, with(), asOther, "list /d/e", "-")
	wantLooked(t, with("x"), asRoot, "list /d/e", "x")
	wantLooked(t, with("-"), asRoot, "list /d/e", "-")
	wantLooked(t, with(",", "0", "x", "~"), asRoot, "list /ld/e/", ",,0,x,~")
	wantLooked(t, with(name12), asRoot, "list /d/e", name12)
	wantLooked(t, yard(), asOther, "list /", "d,f,ld,lf,ln")
	wantLooked(t, yard(), asOther, "list /ld", "e,g,lo")
	wantLooked(t, changed(yard(), crowd), asOther, "list /d", "e,g,g1,g2,g3,lo")
	wantLooked(t, impl.TreeNew(0, 0, 0).Tree, impl.Cred{Root: true}, "list /", "-")
	for line, code := range map[string]int64{"list /f": impl.ErrNotDir, "list /lf": impl.ErrNotDir, "list /none": impl.ErrNone, "list /ln": impl.ErrNone, "list d": impl.ErrForm, "list /d/lo": impl.ErrLoop} {
		wantLineCode(t, yard(), asOther, 0, line, code)
	}
	kept := changedNode(yard(), 2, func(n *impl.Node) { n.Acl = only(3) })
	wantLineCode(t, kept, asOther, 0, "list /d", impl.ErrAccess)
	wantLooked(t, kept, asRoot, "list /d", "e,g,lo")
}

func TestLinesOfLists(t *testing.T) {
	for i, list := range rightAcls() {
		text := aclOwnText(list)
		tree := changed(yard(), func(t *impl.Tree) { t.Nodes[4].Acl, t.Nodes[2].Acl = copyOfAcl(list), copyOfAcl(list) })
		wantLooked(t, tree, asRoot, "getacl /d/g", text)
		wantLooked(t, tree, asOther, "getacl /lf", text)
		wantLooked(t, tree, asRoot, "getacl /d/e", text)
		// What is told of it sets it again.
		set := impl.LineDo(yard(), asRoot, 0, "setacl "+text+" /f")
		if set.Code != impl.OK || !sameAcl(set.Tree.Nodes[3].Acl, list) || impl.LineDo(set.Tree, asRoot, 0, "getacl /f").Told != text {
			t.Errorf("the list %q: got %+v", text, set)
		}
		handed := impl.LineDo(yard(), asRoot, 0, "default "+text+" /d")
		if n := handed.Tree.Nodes[1]; handed.Code != impl.OK || handed.Told != "ok" || !n.Shared || !sameAcl(n.Default, list) {
			t.Errorf("the list %q to hand on: got %+v", text, handed)
		}
		none := impl.LineDo(handed.Tree, asRoot, 0, "share /d")
		if n := none.Tree.Nodes[1]; none.Code != impl.OK || none.Told != "ok" || n.Shared || !sameAcl(n.Default, impl.Acl{}) {
			t.Errorf("%q not to be handed on any more: got %+v", text, none)
		}
		if t.Failed() {
			t.Fatalf("at the list %d", i)
		}
	}
	wantLooked(t, yard(), asOther, "getacl /f", "user::rw-,group::r--,other::---")
	wantLooked(t, yard(), asOther, "getacl /", "user::rwx,group::rwx,other::rwx")
	for line, code := range map[string]int64{"getacl /none": impl.ErrNone, "getacl /ln": impl.ErrNone, "getacl /d/lo": impl.ErrLoop, "getacl /f/": impl.ErrNotDir, "getacl f": impl.ErrForm, "getacl /" + part13: impl.ErrRange} {
		wantLineCode(t, yard(), asOther, 0, line, code)
	}
	wantLineCode(t, changedNode(yard(), 2, func(n *impl.Node) { n.Acl = only(6) }), asOther, 0, "getacl /d/g", impl.ErrAccess)
}

// noLines are texts that are no line, though each would do something if it were taken lightly.
func noLines() []string {
	out := []string{"", " ", "  ", "\t", "\n", "/d", "0750 /n", "mkdirs 0750 /n", "Mkdir 0750 /n", "MKDIR 0750 /n", "mkdi 0750 /n", "ls /", "cat /f", "dir /d", "set /d", "setdefault user::rwx,group::---,other::--- /d", "symlink", "do list /", "list\t/", "list\n/",
		"umask 0022", "as 1:1:", "nfs /d", "error 3", "ok", "-", "#", "list/", "list\u00a0/", "\xfflist /", "list\x00 /",
		// Modes.
		"mkdir 750 /n", "mkdir 00750 /n", "mkdir 0758 /n", "mkdir -750 /n", "mkdir +750 /n", "mkdir 0x1f /n", "mkdir 0o75 /n", "mkdir rwxr-x--- /n", "mkdir 075a /n", "mkdir 9999 /n", "mkdir 10000 /n", "mkdir \u0660\u0667\u0665\u0660 /n", "create 644 /n", "create 00644 /n", "create 0648 /n", "create rw-r--r-- /n",
		"create 0 /n", "chmod 644 /f", "chmod 8000 /f", "chmod u+x /f", "chmod 07777 /f", "chmod 0644\t /f", "chmod 0644, /f",
		// Bits.
		"access 4 /d", "access rw /d", "access rwxr /d", "access xwr /d", "access r /d", "access RWX /d", "access rws /d", "access --- - /d", "access -- /d", "access 0 /d", "access wr- /d", "access r-x, /d", "access r\xffx /d",
		// Lists.
		"setacl user::rwx /f", "setacl user::rwx,group::---,other::---, /f", "setacl group::---,user::rwx,other::--- /f", "setacl user::rwx,user:5:rwx,group::---,other::--- /f", "setacl user::rwx,user:05:rwx,group::---,mask::---,other::--- /f", "setacl user::rwx,user:10000:rwx,group::---,mask::---,other::--- /f",
		"setacl user::7,group::0,other::0 /f", "setacl 0700 /f", "setacl - /f", "setacl user::rwx, group::---,other::--- /f", "setacl user::rwx,user:5:r--,user:5:r--,group::---,mask::r--,other::--- /f", "setacl A::OWNER@:r /f",
		"default user::rwx /d", "default user::rwx,group::---,mask::8,other::--- /d", "default 0700 /d", "default none /d", "default - /d", "default user::rwx,group:7:rwx,group::---,mask::rwx,other::--- /d",
	}
	// Numbers, at each of the two places.
	for _, n := range []string{"00", "01", "007", "+1", "-1", "-0", "1234567890", "0000000001", "9999999999", "99999999999999999999", "1.", "1e3", "0x1", "1,", "a", "1_0", "\u0661", "\xff", "/d", "1\n"} {
		out = append(out, "chown "+n+" 2 /d", "chown 1 "+n+" /d", "chown "+n+" "+n+" /d")
	}
	out = append(out, "chown  2 /d", "chown 1  /d", "chown 1 /d", "chown 1:2 /d", "chown 1 2 3 /d")
	for _, line := range rightLines() {
		words := strings.Split(line, " ")
		// Blanks ahead, behind, and two together; too few words, and too many.
		out = append(out, " "+line, line+" ", line+"  ", " "+line+" ", line+" /d", line+" x", "x "+line, words[0], words[0]+" ", words[0]+"  ", strings.ToUpper(line), strings.ReplaceAll(line, " ", "\t"), strings.ReplaceAll(line, " ", ""))
		for i := range words {
			out = append(out, strings.Join(slices.Delete(slices.Clone(words), i, i+1), " "))
			if i > 0 {
				out = append(out, strings.Join(words[:i], " ")+"  "+strings.Join(words[i:], " "))
			}
		}
	}
	return out
}

// rightLines are lines of each word that root can have done in the yard.
func rightLines() []string {
	return []string{"mkdir 0750 /n", "create 0640 /n", "symlink x /n", "link /f /n", "unlink /f", "rmdir /d/e", "rename /f /n", "rename /f /d/g", "rename /f /f", "chmod 0700 /d", "chown 1 2 /d", "setacl user::rwx,group::---,other::--- /d",
		"default user::rwx,user:5:rw-,group::---,mask::rwx,other::--- /d", "share /d", "access r-x /d", "stat /ld", "lstat /ld", "list /d", "getacl /d"}
}

func TestWhatIsNoLine(t *testing.T) {
	for _, line := range rightLines() {
		if got := impl.LineDo(yard(), asRoot, 0, line); got.Code != impl.OK || got.Told == "" || !ownTreeRight(got.Tree) {
			t.Errorf("%q is a line: got %+v", line, got)
		}
	}
	for _, line := range noLines() {
		for _, c := range []impl.Cred{asRoot, asOther} {
			wantLineCode(t, yard(), c, 0o022, line, impl.ErrSyntax)
		}
	}
}

// Numbers of up to nine digits are a line's; those that are no id are a fault of what it does.
func TestNumbersInLines(t *testing.T) {
	for n, code := range map[string]int64{"0": impl.OK, "1": impl.OK, "9": impl.OK, "10": impl.OK, "9999": impl.OK, "10000": impl.ErrForm, "99999": impl.ErrForm, "100000000": impl.ErrForm, "999999999": impl.ErrForm, "1000000000": impl.ErrSyntax, "0999": impl.ErrSyntax} {
		for _, line := range []string{"chown " + n + " 5 /f", "chown 5 " + n + " /f"} {
			if got := impl.LineDo(yard(), asRoot, 0, line); got.Code != code || code == impl.OK && got.Told != "ok" {
				t.Errorf("%q: got %+v, want the code %d", line, got, code)
			}
			if code != impl.OK {
				wantLineCode(t, yard(), asRoot, 0, line, code)
			}
		}
	}
}

// A PATH that is none, and a BODY that is none, are faults of what the line does.
func TestPathsAndBodiesInLines(t *testing.T) {
	long61 := "/" + strings.Repeat("a/", 30)
	for _, x := range []struct {
		path string
		code int64
	}{{"n", impl.ErrForm}, {"./n", impl.ErrForm}, {"-", impl.ErrForm}, {"/\t", impl.ErrForm}, {"/n\n", impl.ErrForm}, {"/\x00", impl.ErrForm}, {"/\x7f", impl.ErrForm}, {"/\xff", impl.ErrForm}, {"/\u00e4", impl.ErrForm}, {long61, impl.ErrForm}, {"/" + part13, impl.ErrRange}, {"/no/x", impl.ErrNone}, {"/f/x", impl.ErrNotDir}, {"/d/lo/", impl.ErrLoop}} {
		for _, line := range rightLines() {
			words := strings.Split(line, " ")
			words[len(words)-1] = x.path
			wantLineCode(t, yard(), asRoot, 0, strings.Join(words, " "), x.code)
		}
		for _, word := range []string{"link", "rename"} {
			wantLineCode(t, yard(), asRoot, 0, word+" "+x.path+" /n", x.code)
		}
	}
	for _, body := range []string{body40 + "x", "a\tb", "\x7f", "\xff", "\u00e4", "x\n"} {
		wantLineCode(t, yard(), asRoot, 0, "symlink "+body+" /n", impl.ErrForm)
	}
	for _, body := range []string{"x", "/", "//", "-", "..", body40, "0750"} {
		wantChanged(t, yard(), asRoot, 0, "symlink "+body+" /n", "10", impl.Symlink(yard(), asRoot, body, "/n"))
	}
	// A long line is one, as long as it fits in.
	for size, code := range map[int]int64{impl.MaxBytes - len("list /"): impl.ErrForm, impl.MaxBytes - len("list /") + 1: impl.ErrSize} {
		wantLineCode(t, yard(), asRoot, 0, "list /"+strings.Repeat("a", size), code)
	}
}

// What the line does tells its own faults, each with nothing beside it.
func TestFaultsOfWhatALineDoes(t *testing.T) {
	for _, x := range []struct {
		line string
		c    impl.Cred
		code int64
	}{
		{"mkdir 0750 /d", asRoot, impl.ErrThere}, {"create 0640 /f", asRoot, impl.ErrThere}, {"symlink x /ln", asRoot, impl.ErrThere}, {"link /f /d/g", asRoot, impl.ErrThere}, {"link /d /n", asRoot, impl.ErrIsDir}, {"link /none /n", asRoot, impl.ErrNone},
		{"unlink /d", asRoot, impl.ErrIsDir}, {"unlink /", asRoot, impl.ErrState}, {"unlink /none", asRoot, impl.ErrNone}, {"rmdir /f", asRoot, impl.ErrNotDir}, {"rmdir /d", asRoot, impl.ErrEmpty}, {"rmdir /..", asRoot, impl.ErrState},
		{"rename /d /d/e/n", asRoot, impl.ErrRange}, {"rename /f /d", asRoot, impl.ErrIsDir}, {"rename /d/e /f", asRoot, impl.ErrNotDir}, {"rename / /n", asRoot, impl.ErrState}, {"rename /none /n", asRoot, impl.ErrNone},
		{"chmod 0700 /d", asOther, impl.ErrOwner}, {"chown 9 9 /d", asOther, impl.ErrOwner}, {"chown 9 2 /d", asOwner, impl.ErrOwner}, {"setacl user::rwx,group::---,other::--- /d", asOther, impl.ErrOwner}, {"default user::rwx,group::---,other::--- /d", asOther, impl.ErrOwner}, {"share /d", asOther, impl.ErrOwner},
		{"default user::rwx,group::---,other::--- /f", asRoot, impl.ErrNotDir}, {"share /f", asRoot, impl.ErrNotDir}, {"chmod 0700 /none", asRoot, impl.ErrNone}, {"share /ln", asRoot, impl.ErrNone},
	} {
		wantLineCode(t, yard(), x.c, 0o022, x.line, x.code)
	}
	kept := changed(yard(), func(t *impl.Tree) { t.Nodes[0].Acl, t.Nodes[1].Extra = only(5), impl.ExSticky })
	for _, line := range []string{"mkdir 0750 /n", "create 0640 /n", "symlink x /n", "link /d/g /n", "unlink /f", "rename /f /d/n", "rename /f /f"} {
		wantLineCode(t, kept, asOther, 0, line, impl.ErrAccess)
	}
	for _, line := range []string{"unlink /d/g", "rmdir /d/e", "rename /d/g /d/n"} {
		wantLineCode(t, kept, asOther, 0, line, impl.ErrOwner)
	}
	// Without time left what changes something is refused, and what changes nothing is told.
	late := changed(yard(), func(t *impl.Tree) { t.Now = impl.MaxTime })
	for _, line := range rightLines() {
		word, _, _ := strings.Cut(line, " ")
		if slices.Contains(lookWords, word) || line == "rename /f /f" {
			wantLine(t, late, asRoot, 0, line, impl.LineOut{Tree: late, Told: impl.LineDo(yard(), asRoot, 0, line).Told})
			continue
		}
		wantLineCode(t, late, asRoot, 0, line, impl.ErrFull)
	}
}

// A rename upon the same node is done, and changes nothing.
func TestLinesThatChangeNothing(t *testing.T) {
	tree := changed(yard(), func(t *impl.Tree) {
		t.Nodes[2].Names, t.Nodes[3].Links = []impl.Entry{at("f2", 4)}, 2
	})
	for _, line := range []string{"rename /f /f", "rename /f /d/e/f2", "rename /d/e/f2 /f", "rename /d /d/", "rename /ld/ /d"} {
		wantLooked(t, tree, asOther, line, "ok")
	}
	for _, tree := range walkTrees() {
		for _, c := range walkers() {
			for _, word := range lookWords {
				for _, path := range []string{"/", "/a", "/d", "/l", "/d/", "/none", "/a/b/c"} {
					x := asked{c: c, path: path, want: 4}
					line := lineOf(word, x)
					if got := impl.LineDo(tree, c, 0, line); got.Code == impl.OK && !reflect.DeepEqual(copyOfTree(got.Tree), copyOfTree(tree)) || !sameLineOut(got, ownLine(tree, c, 0, line)) {
						t.Errorf("%q by %+v in %+v: got %+v", line, c, tree, got)
					}
				}
			}
		}
	}
}

// unright is what is handed in beside a line, or lines, and is not right.
type unright struct {
	what  string
	tree  impl.Tree
	c     impl.Cred
	umask int64
}

func unrights() []unright {
	var out []unright
	for i, b := range brokenTrees() {
		out = append(out, unright{fmt.Sprint("the broken tree ", i), b.tree, asRoot, 0})
	}
	for _, c := range append(wrongCreds(), impl.Cred{Groups: make([]int64, 100000)}, impl.Cred{Uid: -1, Root: true}) {
		out = append(out, unright{"a cred", yard(), c, 0})
	}
	for _, n := range append([]int64{4096, 8192}, farNumbers...) {
		out = append(out, unright{"an umask", yard(), asRoot, n}, unright{"an umask, of another", yard(), asOther, n})
	}
	return append(out, unright{"all", impl.Tree{}, impl.Cred{Gid: -1}, -1}, unright{"no node", impl.Tree{}, asRoot, 0}, unright{"many nodes", impl.Tree{Nodes: make([]impl.Node, 10000)}, asRoot, 0})
}

// ErrSize comes ahead of all else, ErrForm ahead of ErrSyntax, and that ahead of what the line does; each of them alone, too.
func TestFaultsOfLinesInOrder(t *testing.T) {
	late := changed(yard(), func(t *impl.Tree) { t.Now = impl.MaxTime })
	wantLineCode(t, yard(), asRoot, 0, tooLong, impl.ErrSize)
	wantLineCode(t, yard(), asRoot, 0, "list /"+strings.Repeat("x", impl.MaxBytes), impl.ErrSize)
	wantLineCode(t, late, asRoot, 0, "mkdir 750 /d", impl.ErrSyntax)
	wantLineCode(t, late, asRoot, 0, "mkdir 0750 /d", impl.ErrThere)
	wantLineCode(t, late, asRoot, 0, "mkdir 0750 /n", impl.ErrFull)
	for i, u := range unrights() {
		for k, line := range append([]string{"", "what", "mkdir 750 /n", "list", "chown 00 1 /d"}, rightLines()...) {
			if (i+k)%3 == 0 || i < 5 {
				wantLineCode(t, u.tree, u.c, u.umask, line, impl.ErrForm)
			}
		}
		wantLineCode(t, u.tree, u.c, u.umask, tooLong, impl.ErrSize)
		if t.Failed() {
			t.Fatalf("at %s", u.what)
		}
	}
	// Words that are wrong come ahead of all that the call would tell.
	for _, line := range []string{"mkdir 750 n", "mkdir 750 /d", "create 0648 /no/x", "chmod 0 /none", "chown 00 2 /none", "chown 10000 02 /f", "setacl x /none", "default x /f", "access 9 /none", "access 9 x", "link /f", "link none", "stat", "stat x y", "getacl none none"} {
		wantLineCode(t, late, asOther, 0, line, impl.ErrSyntax)
	}
	// The umask is asked for by each line, whether it needs one or not.
	for _, line := range rightLines() {
		wantLineCode(t, yard(), asRoot, -1, line, impl.ErrForm)
		wantLineCode(t, yard(), asRoot, 4096, line, impl.ErrForm)
		if got := impl.LineDo(yard(), asRoot, 4095, line); got.Code != impl.OK {
			t.Errorf("%q with an umask of 4095: got %+v", line, got)
		}
	}
}

func wantScript(t *testing.T, tree impl.Tree, c impl.Cred, umask int64, lines []string, want impl.LineOut) {
	t.Helper()
	if got := impl.Script(tree, c, umask, lines); !sameLineOut(got, want) {
		t.Errorf("%d lines by %+v: got %+v, want %+v", len(lines), c, got, want)
	}
	if second := ownScript(tree, c, umask, lines); !sameLineOut(second, want) {
		t.Errorf("the second telling of %d lines by %+v: %+v, want %+v", len(lines), c, second, want)
	}
}

func TestFaultsOfScriptsInOrder(t *testing.T) {
	good, bad := slices.Repeat([]string{"list /d"}, 500), make([]string, 500)
	for _, lines := range [][]string{good, bad} {
		wantScript(t, yard(), asRoot, 0, lines[:401], impl.LineOut{Code: impl.ErrSize})
		wantScript(t, yard(), asRoot, 0, lines, impl.LineOut{Code: impl.ErrSize})
		wantScript(t, yard(), asRoot, 0, lines[:400], impl.LineOut{Code: impl.ErrForm})
		wantScript(t, yard(), asRoot, 0, lines[:41], impl.LineOut{Code: impl.ErrForm})
		for _, u := range unrights() {
			wantScript(t, u.tree, u.c, u.umask, nil, impl.LineOut{Code: impl.ErrForm})
			wantScript(t, u.tree, u.c, u.umask, lines[:1], impl.LineOut{Code: impl.ErrForm})
			wantScript(t, u.tree, u.c, u.umask, lines[:40], impl.LineOut{Code: impl.ErrForm})
			wantScript(t, u.tree, u.c, u.umask, lines[:41], impl.LineOut{Code: impl.ErrForm})
			wantScript(t, u.tree, u.c, u.umask, lines[:401], impl.LineOut{Code: impl.ErrSize})
			if t.Failed() {
				t.Fatalf("at %s", u.what)
			}
		}
	}
	wantScript(t, yard(), asRoot, 0, good[:40], impl.LineOut{Tree: yard(), Told: strings.Repeat("e,g,lo\n", 40)})
	wantScript(t, yard(), asRoot, 0, bad[:40], impl.LineOut{Tree: yard(), Told: strings.Repeat("error 3\n", 40)})
	wantScript(t, yard(), asRoot, 0, make([]string, 100000), impl.LineOut{Code: impl.ErrSize})
}

func TestScriptsByHand(t *testing.T) {
	for _, tree := range []impl.Tree{yard(), lane(), impl.TreeNew(0, 0, 0).Tree, {Nodes: []impl.Node{dirNode(1)}}} {
		wantScript(t, tree, asOther, 0o022, nil, impl.LineOut{Tree: tree})
		wantScript(t, tree, asOther, 0o022, []string{}, impl.LineOut{Tree: tree})
		// All are refused: the tree is what it was.
		wantScript(t, tree, asOther, 0o022, []string{"", "what", "mkdir 0777 x", "chmod 0777 /", tooLong, "stat /" + part13, "list  /"}, impl.LineOut{Tree: tree, Told: "error 3\nerror 3\nerror 1\nerror 16\nerror 2\nerror 8\nerror 3\n"})
	}
	// What is refused in between changes nothing, and what comes behind it is done.
	u := impl.Cred{Uid: 5, Gid: 7}
	got := impl.Script(impl.TreeNew(0, 0, 0o1777).Tree, u, 0o027, []string{"mkdir 0777 /d", "mkdir 0777 /d", "create 0666 /d/f", "symlink d/f /l", "link /l /d/m", "no line", "rename /d/f /f", "lstat /l", "stat /l", "stat /d", "stat /f", "access rw- /f", "access --x /f", "chmod 4755 /f",
		"setacl user::rwx,user:9:rw-,group::r-x,mask::rw-,other::--- /f", "getacl /f", "stat /f", "default user::rwx,group::r--,other::r-- /d", "create 0777 /d/n", "getacl /d/n", "share /d", "chown 5 0 /f", "list /", "list /d", "unlink /l", "rmdir /d", "list /"})
	want := "2\nerror 7\n3\n4\nok\nerror 3\nok\nlrwxrwxrwx 5 7 2\nerror 6\ndrwxr-x--- 5 7 1\n-rw-r----- 5 7 1\nyes\nno\nok\nok\nuser::rwx,user:9:rw-,group::r-x,mask::rw-,other::---\n-rwsrw---- 5 7 1\nok\n5\nuser::rwx,group::r--,other::r--\nok\nerror 16\nd,f,l\nm,n\nok\nerror 15\nd,f\n"
	if got.Code != impl.OK || got.Told != want || !ownTreeRight(got.Tree) || got.Tree.Now != 11 {
		t.Errorf("got %q, Now %d, the code %d; want %q", got.Told, got.Tree.Now, got.Code, want)
	}
	// Each line stands upon what the ones ahead left: forty names come and go.
	var lines []string
	for range 20 {
		lines = append(lines, "create 0600 /x", "unlink /x")
	}
	gone := impl.Script(impl.TreeNew(0, 0, 0o777).Tree, u, 0, lines)
	if gone.Code != impl.OK || gone.Told != strings.Repeat("2\nok\n", 20) || gone.Tree.Now != 40 || !impl.SameTree(gone.Tree, impl.TreeNew(0, 0, 0o777).Tree) {
		t.Errorf("forty lines: got %+v", gone)
	}
	wantScript(t, yard(), asRoot, 0, append(lines, "list /"), impl.LineOut{Code: impl.ErrForm})
	// A line that is too long is refused as such, and the others are done.
	wantScript(t, yard(), asRoot, 0, []string{tooLong, "list /d"}, impl.LineOut{Tree: yard(), Told: "error 2\ne,g,lo\n"})
	// At the end of time: one more change, and then none.
	late := changed(yard(), func(t *impl.Tree) { t.Now = impl.MaxTime - 1 })
	if got := impl.Script(late, asRoot, 0, []string{"chmod 0700 /d", "chmod 0777 /d", "stat /d"}); got.Told != "ok\nerror 9\ndrwx------ 1 2 1\n" || got.Tree.Now != impl.MaxTime {
		t.Errorf("at the end of time: got %+v", got)
	}
}

// Whatever is given, a line and a script answer, and as the second telling does.
func TestWhateverLinesAreGiven(t *testing.T) {
	s := steps(1212)
	numbers := append([]int64{0, 18, 4095, 4096, math.MinInt64, math.MaxInt64}, farNumbers...)
	creds := []impl.Cred{asRoot, asOwner, asNamed, asOther, {Uid: math.MinInt64, Root: true}, {Gid: math.MaxInt64}, {Groups: make([]int64, 1000)}}
	trees := []impl.Tree{yard(), lane(), full(), chain(true), impl.TreeNew(0, 0, 0).Tree, {Nodes: []impl.Node{dirNode(1)}}, {}, {Nodes: make([]impl.Node, 1000)}, {Nodes: make([]impl.Node, 12)}, {Nodes: []impl.Node{{Kind: math.MinInt64, Up: math.MaxInt64}}, Now: math.MinInt64}}
	texts := slices.Concat(rightLines(), noLines(), []string{tooLong, strings.Repeat(" ", impl.MaxBytes), strings.Repeat("a ", impl.MaxBytes/2), strings.Repeat("list /", 1000), strings.Repeat(" ", 1<<20), strings.Repeat("\xff", impl.MaxBytes), "setacl " + strings.Repeat(",", 7000) + " /d", "chown " + strings.Repeat("9", 7000) + " 1 /d", "mkdir 0777 " + strings.Repeat("/", 7000)})
	text := func() string {
		if s.next(3) > 0 {
			return texts[s.next(len(texts))]
		}
		some := make([]byte, s.next(40))
		for i := range some {
			some[i] = byte(s.next(256))
		}
		return []string{"", "list ", "mkdir 0777 ", "chown 1 ", "symlink x "}[s.next(5)] + string(some)
	}
	for range 15000 {
		tree, c, umask, line := trees[s.next(len(trees))], creds[s.next(len(creds))], numbers[s.next(len(numbers))], text()
		if got, want := impl.LineDo(tree, c, umask, line), ownLine(tree, c, umask, line); !sameLineOut(got, want) {
			t.Fatalf("%s by %s: got %+v, want %+v", shownLine(line), shownAsk(asked{c: c}), got, want)
		}
	}
	for range 400 {
		tree, c, umask := trees[s.next(6)], creds[s.next(4)], []int64{0, 18, 4095, -1}[s.next(4)]
		lines := make([]string, []int{0, 1, 5, 39, 40, 41, 400, 401}[s.next(8)])
		for i := range lines {
			lines[i] = text()
		}
		if got, want := impl.Script(tree, c, umask, lines), ownScript(tree, c, umask, lines); !sameLineOut(got, want) {
			t.Fatalf("%q: got %+v, want %+v", lines, got, want)
		}
	}
}

// linesDone are LineDo and Script, each of one line of the yard: what is handed in, and what comes back.
func linesDone() map[string]func(t impl.Tree, c impl.Cred, line string) impl.LineOut {
	return map[string]func(t impl.Tree, c impl.Cred, line string) impl.LineOut{
		"LineDo": func(t impl.Tree, c impl.Cred, line string) impl.LineOut { return impl.LineDo(t, c, 0o022, line) },
		"Script": func(t impl.Tree, c impl.Cred, line string) impl.LineOut {
			return impl.Script(t, c, 0o022, []string{line})
		},
		"Script, all but it": func(t impl.Tree, c impl.Cred, line string) impl.LineOut {
			return impl.Script(t, c, 0o022, []string{"", line, "no"})
		},
		"Script of none": func(t impl.Tree, c impl.Cred, line string) impl.LineOut { return impl.Script(t, c, 0o022, nil) },
		"Script of what is refused": func(t impl.Tree, c impl.Cred, line string) impl.LineOut {
			return impl.Script(t, c, 0o022, []string{"", "list /none"})
		},
	}
}

// What is handed in is not changed; an answer shares no list with it, nor with another answer, nor two lists of one answer.
func TestLinesShareNothing(t *testing.T) {
	for what, do := range linesDone() {
		for _, line := range rightLines() {
			c := impl.Cred{Uid: 5, Gid: 7, Groups: []int64{2, 7}, Root: true}
			tree, list := entangled()
			before := copyOfTree(tree)
			first, second := do(tree, c, line), do(tree, c, line)
			if first.Code != impl.OK {
				t.Fatalf("%s of %q: got %+v", what, line, first)
			}
			after := copyOfTree(first.Tree)
			wantSameTree(t, line+" of what was handed in", tree, before)
			for i := range scribbles(&first.Tree) {
				got := do(tree, c, line)
				scribbles(&got.Tree)[i]()
				wantSameTree(t, line+", after its answer was written over", tree, before)
				if i%5 == 4 || i == len(scribbles(&first.Tree))-1 {
					continue
				}
				for k, other := range listsOf(got.Tree) {
					if k != i/5*4+i%5 && !slices.Equal(other, listsOf(after)[k]) {
						t.Errorf("%s of %q: the lists %d and %d of an answer share memory", what, line, i, k)
					}
				}
			}
			for _, write := range append(scribbles(&first.Tree), scribbles(&tree)...) {
				write()
			}
			scribble(list)
			wantSameTree(t, what+" of "+line+", the second answer", second.Tree, after)
			if !slices.Equal(c.Groups, []int64{2, 7}) {
				t.Errorf("%s of %q: the cred is now %+v", what, line, c)
			}
		}
	}
	lines := append(rightLines(), "", tooLong)
	given := slices.Clone(lines)
	impl.Script(yard(), asRoot, 0, lines)
	if !slices.Equal(lines, given) {
		t.Error("the lines that were handed in are changed")
	}
}

// No text of an answer lies within one that was handed in.
func TestTextsOfLinesAreNewMemory(t *testing.T) {
	line := strings.Clone("symlink body-of-a-link /d/" + name12)
	for what, made := range map[string]impl.LineOut{"LineDo": impl.LineDo(yard(), asRoot, 0, line), "Script": impl.Script(yard(), asRoot, 0, []string{line})} {
		if within(made.Tree.Nodes[9].Body, line) || within(made.Tree.Nodes[1].Names[3].Name, line) {
			t.Errorf("%s: what is made lies within what was handed in", what)
		}
		tree := made.Tree
		for _, again := range []string{"list /d", "stat /", "rename /f /f", "chmod 0777 /", "getacl /d"} {
			for _, got := range []impl.LineOut{impl.LineDo(tree, asRoot, 0, again), impl.Script(tree, asRoot, 0, []string{again}), impl.Script(tree, asRoot, 0, nil)} {
				if within(got.Tree.Nodes[9].Body, tree.Nodes[9].Body) || within(got.Tree.Nodes[1].Names[3].Name, tree.Nodes[1].Names[3].Name) {
					t.Errorf("%s: a text lies within the tree that was handed in", again)
				}
			}
		}
	}
	one := changedNode(yard(), 3, func(n *impl.Node) { n.Names = []impl.Entry{at(strings.Clone(name12), 4)} })
	one.Nodes[3].Links = 2
	if told := impl.LineDo(one, asRoot, 0, "list /d/e").Told; told != name12 || within(told, one.Nodes[2].Names[0].Name) {
		t.Error("a list of one name lies within the tree that was handed in")
	}
}
