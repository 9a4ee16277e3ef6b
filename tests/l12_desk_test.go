package tests

import (
	"fmt"
	"slices"
	"strings"
	"testing"

	"loop.example/g00622/impl"
)

// deskRow is a line of a desk, and what it tells.
type deskRow struct {
	line string
	told string
}

// wantRows asks for what lines tell, all together; the second telling has to say the same.
func wantRows(t *testing.T, rows ...deskRow) {
	t.Helper()
	text, told := "", ""
	for _, r := range rows {
		text += r.line + "\n"
		told += r.told + "\n"
	}
	wantDesk(t, text, impl.DeskOut{Text: told})
	if second := ownDesk(text); second != (impl.DeskOut{Text: told}) {
		t.Errorf("the second telling of %s: %+v, want %q", shownDesk(text), second, told)
	}
}

// wantNoDesk asks for ErrSyntax with its Line, and nothing else beside it.
func wantNoDesk(t *testing.T, line int64, lines ...string) {
	t.Helper()
	wantDesk(t, deskOf(lines), impl.DeskOut{Line: line, Code: impl.ErrSyntax})
}

func TestDeskTree(t *testing.T) {
	made := impl.TreeNew(0, 0, 493)
	wantSameTree(t, "DeskTree", impl.DeskTree(), made.Tree)
	wantSameTree(t, "DeskTree, written out", impl.DeskTree(), newTable().tree)
	if tree := impl.DeskTree(); !impl.TreeRight(tree) || len(tree.Nodes) != impl.MaxNodes || impl.NodeMode(tree, 1) != 0o755 || tree.Now != 0 {
		t.Errorf("DeskTree: got %+v", tree)
	}
}

func TestDeskWords(t *testing.T) {
	if got := impl.DeskWords(); !slices.Equal(got, []string{"as", "do", "nfs", "umask"}) || !slices.Equal(got, deskWords) {
		t.Errorf("DeskWords: got %q", got)
	}
	// Each of them begins a line, and nothing else does.
	for _, line := range rightDeskLines() {
		word, rest, _ := strings.Cut(line, " ")
		if !slices.Contains(impl.DeskWords(), word) {
			t.Errorf("%q begins a line: got %q", word, impl.DeskWords())
		}
		for _, other := range append(slices.Clone(scriptWords), "", "error", "su", "id", "desk") {
			wantNoDesk(t, 0, other+" "+rest)
		}
	}
}

// At first there is root of 0 and 0, the umask 0022, and an empty tree of the mode 0755.
func TestANewDesk(t *testing.T) {
	wantRows(t, deskRow{"do stat /", "drwxr-xr-x 0 0 1"}, deskRow{"do list /", "-"}, deskRow{"do getacl /", "user::rwx,group::r-x,other::r-x"}, deskRow{"nfs /", "A::OWNER@:rwxa,A::GROUP@:rx,D::GROUP@:wa,A::EVERYONE@:rx"},
		deskRow{"do create 0666 /f", "2"}, deskRow{"do stat /f", "-rw-r--r-- 0 0 1"}, deskRow{"do mkdir 0777 /d", "3"}, deskRow{"do stat /d", "drwxr-xr-x 0 0 1"}, deskRow{"do access --x /f", "no"}, deskRow{"do chown 5 7 /f", "ok"}, deskRow{"do access rw- /f", "yes"})
}

// as: what comes behind it is done by them, until another one comes.
func TestAsByHand(t *testing.T) {
	wantRows(t, deskRow{"do chmod 0777 /", "ok"},
		deskRow{"as 5:7:", "ok"}, deskRow{"do create 0640 /a", "2"}, deskRow{"do stat /a", "-rw-r----- 5 7 1"}, deskRow{"do chown 6 7 /a", "error 16"}, deskRow{"do chown 5 8 /a", "error 16"},
		// By a group of one's own, which may be given, and by which one may read.
		deskRow{"as 5:7:8,9", "ok"}, deskRow{"do chown 5 8 /a", "ok"}, deskRow{"do stat /a", "-rw-r----- 5 8 1"},
		deskRow{"as 6:7:", "ok"}, deskRow{"do access r-- /a", "no"}, deskRow{"as 6:7:9", "ok"}, deskRow{"do access r-- /a", "no"}, deskRow{"as 6:7:8", "ok"}, deskRow{"do access r-- /a", "yes"}, deskRow{"do access -w- /a", "no"}, deskRow{"as 6:8:", "ok"}, deskRow{"do access r-- /a", "yes"},
		deskRow{"do chmod 0777 /a", "error 16"}, deskRow{"do create 0600 /b", "3"}, deskRow{"do stat /b", "-rw------- 6 8 1"},
		// Root of another number, and one of the number 0 that is not root.
		deskRow{"as 6:8:*", "ok"}, deskRow{"do chmod 0600 /a", "ok"}, deskRow{"do create 0600 /c", "4"}, deskRow{"do stat /c", "-rw------- 6 8 1"}, deskRow{"do access rw- /a", "yes"},
		deskRow{"as 0:0:", "ok"}, deskRow{"do access r-- /a", "no"}, deskRow{"do chmod 0600 /a", "error 16"}, deskRow{"do chmod 0755 /", "ok"},
		deskRow{"as 9999:9999:0,1,2,3,4,5,6,9999", "ok"}, deskRow{"do create 0600 /d", "error 11"},
		deskRow{"as 0:0:*", "ok"}, deskRow{"do chown 9999 1 /a", "ok"}, deskRow{"do stat /a", "-rw------- 9999 1 1"})
	// What is refused, and each other word, leaves the Cred.
	wantRows(t, deskRow{"do chmod 0777 /", "ok"}, deskRow{"as 3:4:", "ok"}, deskRow{"umask 0000", "ok"}, deskRow{"nfs /none", "error 6"}, deskRow{"nfs /", "A::OWNER@:rwxa,A::GROUP@:rwxa,A::EVERYONE@:rwxa"}, deskRow{"do what", "error 3"}, deskRow{"do chmod 0755 /", "error 16"}, deskRow{"do create 0666 /f", "2"}, deskRow{"do stat /f", "-rw-rw-rw- 3 4 1"})
	// As often as one likes.
	wantRows(t, slices.Repeat([]deskRow{{"as 5:7:", "ok"}, {"as 0:0:*", "ok"}}, 20)...)
}

// umask: what is made behind it has it, until another one comes; what was made ahead stays.
func TestUmaskByHand(t *testing.T) {
	wantRows(t, deskRow{"do create 0777 /a", "2"}, deskRow{"umask 0077", "ok"}, deskRow{"do create 0777 /b", "3"}, deskRow{"do mkdir 0777 /c", "4"}, deskRow{"do symlink a /l", "5"}, deskRow{"umask 0000", "ok"}, deskRow{"do create 0777 /c/d", "6"}, deskRow{"umask 7777", "ok"}, deskRow{"do create 7777 /c/e", "7"},
		deskRow{"do stat /a", "-rwxr-xr-x 0 0 1"}, deskRow{"do stat /b", "-rwx------ 0 0 1"}, deskRow{"do stat /c", "drwx------ 0 0 1"}, deskRow{"do lstat /l", "lrwxrwxrwx 0 0 1"}, deskRow{"do stat /c/d", "-rwxrwxrwx 0 0 1"}, deskRow{"do stat /c/e", "---S--S--T 0 0 1"},
		// Of what is not made nothing is taken.
		deskRow{"do chmod 0777 /a", "ok"}, deskRow{"do stat /a", "-rwxrwxrwx 0 0 1"})
	// A list that is handed on comes in its place; who asks, and what is refused, leave it.
	wantRows(t, deskRow{"do chmod 0777 /", "ok"}, deskRow{"umask 0027", "ok"}, deskRow{"as 5:7:", "ok"}, deskRow{"do create 0666 /a", "2"}, deskRow{"do stat /a", "-rw-r----- 5 7 1"}, deskRow{"do create 0666 /a", "error 7"}, deskRow{"do umask 0000", "error 3"}, deskRow{"as 0:0:*", "ok"}, deskRow{"do mkdir 0777 /d", "3"}, deskRow{"do stat /d", "drwxr-x--- 0 0 1"},
		deskRow{"do default user::rwx,group::rwx,other::rwx /d", "ok"}, deskRow{"do create 0666 /d/f", "4"}, deskRow{"do stat /d/f", "-rw-rw-rw- 0 0 1"}, deskRow{"do share /d", "ok"}, deskRow{"do create 0666 /d/g", "5"}, deskRow{"do stat /d/g", "-rw-r----- 0 0 1"})
}

// Each mode as an umask: of a file of the mode 0777 it leaves what it has not.
func TestEachUmask(t *testing.T) {
	for mode := range 4096 {
		octal := fmt.Sprintf("%04o", mode)
		left := modeOwnText(0o777 &^ mode)
		wantDesk(t, "umask "+octal+"\ndo create 0777 /f\ndo stat /f\n", impl.DeskOut{Text: "ok\n2\n-" + left + " 0 0 1\n"})
	}
}

// do: each kind of line that a script has, and what it tells.
func TestDoByHand(t *testing.T) {
	wantRows(t, deskRow{"do mkdir 1777 /d", "2"}, deskRow{"do create 0644 /d/f", "3"}, deskRow{"do symlink d/f /l", "4"}, deskRow{"do link /d/f /g", "ok"}, deskRow{"do stat /l", "-rw-r--r-- 0 0 2"}, deskRow{"do lstat /l", "lrwxrwxrwx 0 0 1"}, deskRow{"do unlink /d/f", "ok"}, deskRow{"do stat /l", "error 6"}, deskRow{"do rename /g /h", "ok"},
		deskRow{"do mkdir 0700 /d/e", "5"}, deskRow{"do list /d", "e"}, deskRow{"do rmdir /d", "error 15"}, deskRow{"do rmdir /d/e", "ok"}, deskRow{"do list /d", "-"}, deskRow{"do chmod 4755 /h", "ok"}, deskRow{"do chown 12 34 /h", "ok"}, deskRow{"do stat /h", "-rwsr-xr-x 12 34 1"},
		deskRow{"do setacl user::rw-,user:5:rw-,group::r--,mask::rw-,other::--- /h", "ok"}, deskRow{"do getacl /h", "user::rw-,user:5:rw-,group::r--,mask::rw-,other::---"}, deskRow{"do default user::rwx,group::---,other::--- /d", "ok"}, deskRow{"do create 0777 /d/n", "5"}, deskRow{"do getacl /d/n", "user::rwx,group::---,other::---"},
		deskRow{"do share /d", "ok"}, deskRow{"do mkdir 0777 /d/m", "6"}, deskRow{"do getacl /d/m", "user::rwx,group::r-x,other::r-x"}, deskRow{"do access rwx /d", "yes"}, deskRow{"do list /", "d,h,l"})
	// What is refused is told by its code, and changes nothing.
	wantRows(t, deskRow{"do create 0644 /f", "2"}, deskRow{"do symlink l /l", "3"}, deskRow{"do mkdir 0777 x", "error 1"}, deskRow{"do mkdir 777 /x", "error 3"}, deskRow{"do rmdir /x", "error 6"}, deskRow{"do create 0644 /f", "error 7"}, deskRow{"do stat /" + part13, "error 8"}, deskRow{"do rmdir /", "error 10"}, deskRow{"do access --x /f", "no"}, deskRow{"do list /f", "error 12"},
		deskRow{"do link / /x", "error 13"}, deskRow{"do stat /l", "error 14"}, deskRow{"do mkdir 0777 /d", "4"}, deskRow{"do rename /f /d/f", "ok"}, deskRow{"do rmdir /d", "error 15"}, deskRow{"as 5:7:", "ok"}, deskRow{"do chmod 0777 /d", "error 16"}, deskRow{"do create 0644 /x", "error 11"}, deskRow{"do list /", "d,l"}, deskRow{"do stat /d", "drwxr-xr-x 0 0 1"})
	// ErrFull: of names, of nodes and of links.
	wantRows(t, deskRow{"do create 0644 /a", "2"}, deskRow{"do create 0644 /b", "3"}, deskRow{"do link /a /c", "ok"}, deskRow{"do link /a /d", "ok"}, deskRow{"do link /a /e", "ok"}, deskRow{"do mkdir 0777 /f", "4"}, deskRow{"do create 0644 /g", "error 9"}, deskRow{"do link /a /f/a", "ok"}, deskRow{"do link /a /f/b", "error 9"}, deskRow{"do list /", "a,b,c,d,e,f"}, deskRow{"do list /f", "a"}, deskRow{"do stat /a", "-rw-r--r-- 0 0 5"})
}

func TestDoOfTheSameAsAScript(t *testing.T) {
	root := impl.Cred{Root: true}
	lines := []string{"mkdir 1777 /d", "create 0644 /d/f", "symlink d/f /l", "link /d/f /g", "stat /l", "lstat /l", "access rwx /d", "access --x /g", "unlink /d/f", "stat /l", "rename /g /h", "chmod 4755 /h", "chown 12 34 /h", "setacl user::rw-,user:5:rw-,group::r--,mask::rw-,other::--- /h", "getacl /h", "default user::rwx,group::---,other::--- /d", "create 0777 /d/n", "getacl /d/n", "share /d", "list /", "list /d", "list /h", "rmdir /d", "unlink /d/n", "rmdir /d", "list /", "", " ", "what", "mkdir 777 /d", "stat x", "stat /a/b", "chown 1 10000 /h", "do list /", "nfs /", "as 0:0:*", "umask 0000"}
	text := ""
	for _, line := range lines {
		text += "do " + line + "\n"
	}
	want := impl.Script(impl.DeskTree(), root, 18, lines)
	if want.Code != impl.OK || strings.Count(want.Told, "\n") != len(lines) {
		t.Fatalf("the script: %+v", want)
	}
	wantDesk(t, text, impl.DeskOut{Text: want.Told})
}

// What is no line of a script is a line of a desk with do ahead of it, and told as such.
func TestDoOfWhatIsNoLine(t *testing.T) {
	count := 0
	for _, line := range noLines() {
		if strings.Contains(line, "\n") {
			continue
		}
		wantRows(t, deskRow{"do " + line, "error 3"}, deskRow{"do list /", "-"})
		count++
	}
	if count < 200 {
		t.Errorf("%d lines: too little was asked", count)
	}
	wantRows(t, deskRow{"do ", "error 3"}, deskRow{"do  ", "error 3"}, deskRow{"do  list /", "error 3"}, deskRow{"do list / ", "error 3"}, deskRow{"do list /\r", "error 1"}, deskRow{"do do list /", "error 3"})
}

// nfs: of a directory, a file, a link that leads to one, and what leads nowhere or is refused on the way.
func TestNfsByHand(t *testing.T) {
	made := []deskRow{{"do mkdir 0750 /d", "2"}, {"do create 0640 /d/f", "3"}, {"do symlink d /ld", "4"}, {"do symlink d/f /lf", "5"}, {"do symlink none /ln", "6"}, {"do symlink lo /lo", "7"}, {"do mkdir 0711 /d/e", "8"}}
	dir, file, inner := "A::OWNER@:rwxa,A::GROUP@:rx,D::GROUP@:wa", "A::OWNER@:rwa,D::OWNER@:x,A::GROUP@:r,D::GROUP@:wxa", "A::OWNER@:rwxa,A::GROUP@:x,D::GROUP@:rwa,A::EVERYONE@:x"
	wantRows(t, append(slices.Clone(made), deskRow{"nfs /", "A::OWNER@:rwxa,A::GROUP@:rx,D::GROUP@:wa,A::EVERYONE@:rx"}, deskRow{"nfs /d", dir}, deskRow{"nfs /d/", dir}, deskRow{"nfs /ld", dir}, deskRow{"nfs /ld/", dir}, deskRow{"nfs /ld/.", dir}, deskRow{"nfs /d/f", file}, deskRow{"nfs /ld/f", file}, deskRow{"nfs /lf", file}, deskRow{"nfs //d//e", inner},
		deskRow{"nfs /none", "error 6"}, deskRow{"nfs /ln", "error 6"}, deskRow{"nfs /d/none", "error 6"}, deskRow{"nfs /none/x", "error 6"}, deskRow{"nfs /d/f/", "error 12"}, deskRow{"nfs /lf/", "error 12"}, deskRow{"nfs /d/f/x", "error 12"}, deskRow{"nfs /lo", "error 14"}, deskRow{"nfs /lo/x", "error 14"},
		deskRow{"nfs x", "error 1"}, deskRow{"nfs ", "error 1"}, deskRow{"nfs /d\t", "error 1"}, deskRow{"nfs /d\r", "error 1"}, deskRow{"nfs \t/d", "error 1"}, deskRow{"nfs /d\u00a0/d", "error 1"}, deskRow{"nfs /d\x00", "error 1"}, deskRow{"nfs /\xff", "error 1"}, deskRow{"nfs /" + part13, "error 8"}, deskRow{"nfs /" + strings.Repeat("a/", 29), "error 6"}, deskRow{"nfs /" + strings.Repeat("a/", 30), "error 1"},
	)...)
	// By who is not let in on the way; the list itself is told to all who come there.
	wantRows(t, append(slices.Clone(made), deskRow{"as 5:7:", "ok"}, deskRow{"nfs /d", dir}, deskRow{"nfs /ld", dir}, deskRow{"nfs /d/f", "error 11"}, deskRow{"nfs /d/none", "error 11"}, deskRow{"nfs /lf", "error 11"}, deskRow{"nfs /d/.", "error 11"}, deskRow{"nfs /ln", "error 6"},
		deskRow{"as 0:7:", "ok"}, deskRow{"nfs /d/f", file}, deskRow{"as 5:7:0", "ok"}, deskRow{"nfs /d/f", file}, deskRow{"as 5:0:", "ok"}, deskRow{"nfs /lf", file}, deskRow{"as 5:7:*", "ok"}, deskRow{"nfs /lf", file}, deskRow{"do chmod 0000 /d/f", "ok"}, deskRow{"do chmod 0000 /d", "ok"}, deskRow{"nfs /d/f", "D::OWNER@:rwxa,D::GROUP@:rwxa"},
		deskRow{"as 0:0:", "ok"}, deskRow{"nfs /d/f", "error 11"}, deskRow{"nfs /d", "D::OWNER@:rwxa,D::GROUP@:rwxa"})...)
	// With names and a mask, and as it stands when it is asked; a list that is handed on is not told.
	wantRows(t, deskRow{"do create 0777 /f", "2"}, deskRow{"nfs /f", "A::OWNER@:rwxa,A::GROUP@:rx,D::GROUP@:wa,A::EVERYONE@:rx"}, deskRow{"do setacl user::rwx,user:5:rw-,user:17:--x,group::rw-,group:9:-w-,mask::r-x,other::r-- /f", "ok"},
		deskRow{"nfs /f", "A::OWNER@:rwxa,A::u5:r,D::u5:wxa,A::u17:x,D::u17:rwa,A::GROUP@:r,D::GROUP@:wxa,D::g9:rwxa,A::EVERYONE@:r"}, deskRow{"do default user::---,group::---,other::--- /", "ok"}, deskRow{"nfs /", "A::OWNER@:rwxa,A::GROUP@:rx,D::GROUP@:wa,A::EVERYONE@:rx"},
		deskRow{"do chmod 0700 /f", "ok"}, deskRow{"nfs /f", "A::OWNER@:rwxa,D::u5:rwxa,D::u17:rwxa,D::GROUP@:rwxa,D::g9:rwxa"}, deskRow{"do unlink /f", "ok"}, deskRow{"nfs /f", "error 6"})
}

// Behind nfs stands one path, in which there is no blank: with one anywhere it is no line, whatever the path leads to.
func TestNfsTakesOneWord(t *testing.T) {
	made := []string{"do mkdir 0750 /d", "do create 0640 /d/f", "do symlink d /l"}
	paths := []string{"/", "/d", "/d/f", "/d/", "/l", "/l/f", "//d//f", "/none", "/none/x", "/d/f/x", "x", "", "/" + part13}
	for _, path := range paths {
		if got := wantToldTwice(t, deskOf(append(slices.Clone(made), "nfs "+path))); got.Code != impl.OK || strings.Count(got.Text, "\n") != 4 {
			t.Errorf("nfs %s: got %+v", path, got)
		}
		for i := range len(path) + 1 {
			for _, blanks := range []string{" ", "  ", " \t", "\t ", " / ", " x "} {
				line := "nfs " + path[:i] + blanks + path[i:]
				wantNoDesk(t, 0, line)
				wantNoDesk(t, 3, append(slices.Clone(made), line)...)
				wantNoDesk(t, 3, append(slices.Clone(made), line, "nfs /", "what")...)
			}
		}
		for _, other := range append(slices.Clone(paths), "0:0:", "do", "list /") {
			wantNoDesk(t, 1, "nfs /", "nfs "+path+" "+other)
		}
	}
	// Also where the line is as long as a text may be.
	full := "nfs / " + strings.Repeat("x", impl.MaxBytes-7) + "\n"
	wantDesk(t, full, impl.DeskOut{Code: impl.ErrSyntax})
	wantDesk(t, "x"+full, impl.DeskOut{Code: impl.ErrSize})
	// What stands behind do may have blanks wherever it likes; it is told when it is done.
	wantRows(t, deskRow{"do list / /", "error 3"}, deskRow{"do nfs / x", "error 3"}, deskRow{"do  ", "error 3"}, deskRow{"do list  /", "error 3"})
}

// nfs is NfsText of ToNfs of the list, whichever that is.
func TestNfsOfEachList(t *testing.T) {
	for _, a := range crossedAcls() {
		want := impl.NfsText(impl.ToNfs(a))
		if want == "" {
			t.Fatalf("ToNfs of %+v tells nothing", a)
		}
		text := "do create 0777 /f\ndo setacl " + aclOwnText(a) + " /f\nnfs /f\n"
		wantDesk(t, text, impl.DeskOut{Text: "2\nok\n" + want + "\n"})
	}
}

// Each text that is no line, alone, at the end, and with lines around it.
func TestWhatIsNoLineOfADesk(t *testing.T) {
	right := rightDeskLines()
	for _, line := range right {
		if got := impl.DeskRun(line + "\n"); got.Code != impl.OK || got.Text == "\n" || strings.HasPrefix(got.Text, "error") || got.Line != 0 {
			t.Errorf("%q is a line: got %+v", line, got)
		}
	}
	for _, line := range noDeskLines() {
		wantNoDesk(t, 0, line)
		wantNoDesk(t, 0, line, "do list /")
		wantNoDesk(t, int64(len(right)), append(slices.Clone(right), line)...)
		wantNoDesk(t, 39, append(slices.Repeat([]string{"do list /"}, 39), line)...)
		// Also without a line feed behind it; an empty one is no line then at all.
		if line != "" {
			wantDesk(t, "nfs /\n"+line, impl.DeskOut{Line: 1, Code: impl.ErrSyntax})
		}
		if t.Failed() {
			t.Fatalf("at %q", line)
		}
	}
}

// Of several faults the first line is named, whatever it is that is wrong there.
func TestWhichLineIsNamed(t *testing.T) {
	none := []string{"", "what", "do", " do list /", "as 0:0", "umask 22", "nfs / /"}
	for i, first := range none {
		for _, second := range none {
			for at := range int64(5) {
				lines := slices.Repeat([]string{"do list /"}, 45)
				lines[at], lines[at+1+int64(i)] = first, second
				wantNoDesk(t, at, lines...)
				wantNoDesk(t, at, lines[:at+1]...)
				wantNoDesk(t, at, lines[:40]...)
			}
		}
	}
	// One too many: the line 40, be it a line or none, and however many there are; but what is wrong ahead of it is named.
	good := slices.Repeat([]string{"do list /"}, 500)
	for _, count := range []int{41, 42, 80, 400, 401, 500} {
		wantNoDesk(t, 40, good[:count]...)
		for _, at := range []int{0, 1, 20, 38, 39, 40} {
			lines := slices.Clone(good[:count])
			lines[at] = "what"
			wantNoDesk(t, int64(at), lines...)
		}
	}
	wantNoDesk(t, 40, append(good[:40:40], "")...)
	// Without its line feed: the last line, and what is wrong ahead of it.
	for _, line := range rightDeskLines() {
		for count := range 42 {
			text := deskOf(slices.Repeat([]string{"as 0:0:*"}, count))
			wantDesk(t, text+line, impl.DeskOut{Line: int64(min(count, 40)), Code: impl.ErrSyntax})
			if count > 0 {
				wantDesk(t, text+"x\n"+line, impl.DeskOut{Line: int64(min(count, 40)), Code: impl.ErrSyntax})
				wantDesk(t, "\n"+text+line, impl.DeskOut{Line: 0, Code: impl.ErrSyntax})
			}
		}
	}
	wantDesk(t, "do list /\r\n", impl.DeskOut{Text: "error 1\n"})
	wantNoDesk(t, 1, "do mkdir 0777 /d", "do", "do mkdir 0777 /e")
}

// Of no line, of as many as there may be, and of one more; of as many bytes as there may be, and of one more.
func TestLimitsOfADesk(t *testing.T) {
	wantDesk(t, "", impl.DeskOut{})
	for count := range 41 {
		wantDesk(t, strings.Repeat("do list /\n", count), impl.DeskOut{Text: strings.Repeat("-\n", count)})
	}
	wantDesk(t, strings.Repeat("do list /\n", 41), impl.DeskOut{Line: 40, Code: impl.ErrSyntax})
	// Forty lines that each stand upon the ones ahead.
	wantDesk(t, strings.Repeat("do create 0600 /x\ndo unlink /x\n", 20), impl.DeskOut{Text: strings.Repeat("2\nok\n", 20)})
	for _, ahead := range []string{"do ", "do list /", "nfs /"} {
		full := ahead + strings.Repeat("x", impl.MaxBytes-len(ahead)-1) + "\n"
		told := map[string]string{"do ": "error 3\n", "do list /": "error 1\n", "nfs /": "error 1\n"}[ahead]
		wantDesk(t, full, impl.DeskOut{Text: told})
		wantDesk(t, full+"\n", impl.DeskOut{Code: impl.ErrSize})
		wantDesk(t, "x"+full, impl.DeskOut{Code: impl.ErrSize})
	}
	// ErrSize comes ahead of all else, with no Line.
	for _, text := range []string{tooLong, "do list /\n" + tooLong, strings.Repeat("do list /\n", 801), strings.Repeat("\n", impl.MaxBytes+1), strings.Repeat("x\n", 1<<20), strings.Repeat("as 0:0:*\n", 889) + "as", strings.Repeat("\xff", 1<<20)} {
		wantDesk(t, text, impl.DeskOut{Code: impl.ErrSize})
	}
	wantDesk(t, strings.Repeat("do list /\n", 800), impl.DeskOut{Line: 40, Code: impl.ErrSyntax})
	wantDesk(t, tooLong[1:], impl.DeskOut{Line: 0, Code: impl.ErrSyntax})
	wantDesk(t, strings.Repeat("\n", impl.MaxBytes), impl.DeskOut{Line: 0, Code: impl.ErrSyntax})
}

// DeskFault is what DeskRun answers, without Text.
func TestDeskFaultHeldAgainstDeskRun(t *testing.T) {
	s := steps(1200)
	texts := []string{"", "\n", tooLong, strings.Repeat("do list /\n", 41)}
	for range 400 {
		lines := s.deskLines(s.next(12))
		texts = append(texts, deskOf(lines), s.spoiledDesk(lines))
	}
	seen := map[int64]int{}
	for _, text := range texts {
		run, fault := impl.DeskRun(text), impl.DeskFault(text)
		if fault.Text != "" || fault.Line != run.Line || fault.Code != run.Code {
			t.Fatalf("%s: DeskRun tells %+v, DeskFault %+v", shownDesk(text), run, fault)
		}
		if run.Code != impl.OK && run.Text != "" || run.Code != impl.ErrSyntax && run.Line != 0 {
			t.Fatalf("%s: got %+v", shownDesk(text), run)
		}
		seen[run.Code]++
	}
	if seen[impl.OK] < 100 || seen[impl.ErrSyntax] < 100 {
		t.Errorf("the codes came %v: too little was asked", seen)
	}
}

// Each desk is a new one: nothing is kept from one to the next.
func TestDesksKeepNothing(t *testing.T) {
	first := "as 5:7:8\numask 0077\ndo list /\n"
	second := "do chmod 0777 /\ndo mkdir 0777 /d\nas 1:1:\numask 0000\ndo create 0777 /d/f\n"
	third := "do create 0666 /f\ndo stat /f\ndo stat /\ndo list /\n"
	for range 3 {
		for _, text := range []string{first, second, "what\n", second + "do"} {
			impl.DeskRun(text)
			impl.DeskFault(text)
			wantDesk(t, third, impl.DeskOut{Text: "2\n-rw-r--r-- 0 0 1\ndrwxr-xr-x 0 0 1\nf\n"})
		}
	}
}

// An answer that is written over changes no answer got later, and lies within nothing that was handed in.
func TestDesksShareNothing(t *testing.T) {
	words := impl.DeskWords()
	before := impl.DeskWords()
	for i := range words[:cap(words)] {
		words[:cap(words)][i] = "no"
	}
	if !slices.Equal(before, deskWords) || !slices.Equal(impl.DeskWords(), deskWords) {
		t.Error("two answers of DeskWords share memory")
	}
	tree, other := impl.DeskTree(), impl.DeskTree()
	for i := range tree.Nodes {
		tree.Nodes[i] = impl.Node{Kind: 9, Owner: 9, Names: []impl.Entry{at("no", 7)}}
	}
	for _, write := range scribbles(&tree) {
		write()
	}
	wantSameTree(t, "DeskTree, got ahead", other, newTable().tree)
	wantSameTree(t, "DeskTree, got later", impl.DeskTree(), newTable().tree)
	wantDesk(t, "do stat /\ndo list /\n", impl.DeskOut{Text: "drwxr-xr-x 0 0 1\n-\n"})
	text := strings.Clone("do create 0600 /" + name12 + "\ndo list /\ndo symlink " + name12 + " /l\ndo list /\n")
	got := impl.DeskRun(text)
	if got.Text != "2\n"+name12+"\n3\nl,"+name12+"\n" || within(got.Text, text) {
		t.Errorf("%s: got %+v", shownDesk(text), got)
	}
	for _, one := range []string{"as 0:0:*\n", "nfs /\n", "do what\n", "do list /\n"} {
		given := strings.Clone(one)
		if within(impl.DeskRun(given).Text, given) || given != one {
			t.Errorf("%q: what is told lies within what was handed in, or that is changed", one)
		}
	}
}
