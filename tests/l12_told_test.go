package tests

import (
	"fmt"
	"regexp"
	"strconv"
	"strings"
	"testing"

	"loop.example/g00622/impl"
)

// table is what the lines of a desk stand upon, told anew, apart from the program.
type table struct {
	tree  impl.Tree
	c     impl.Cred
	umask int64
}

var (
	deskWords = []string{"as", "do", "nfs", "umask"}
	deskShape = regexp.MustCompile(`(?s)^(as|do|nfs|umask) (.*)$`)
	credShape = regexp.MustCompile(`^([0-9]+):([0-9]+):([0-9,]*)(\*?)$`)
	octShape  = regexp.MustCompile(`^[0-7]{4}$`)
	oneWord   = regexp.MustCompile(`^[^ ]*$`)
)

// newTable has a tree that is written out: no call made it.
func newTable() table {
	nodes := make([]impl.Node, 12)
	nodes[0] = impl.Node{Kind: impl.KdDir, Acl: impl.Acl{User: 7, Group: 5, Other: 5}, Links: 1, Up: 1}
	return table{tree: impl.Tree{Nodes: nodes}, c: impl.Cred{Root: true}, umask: 2*8 + 2}
}

// ownCredRead takes a cred if its own text is what was read.
func ownCredRead(text string) (impl.Cred, bool) {
	m := credShape.FindStringSubmatch(text)
	if m == nil {
		return impl.Cred{}, false
	}
	number := func(t string) int64 {
		n, _ := strconv.ParseInt(t, 10, 64)
		return n
	}
	c := impl.Cred{Uid: number(m[1]), Gid: number(m[2]), Root: m[4] != ""}
	for _, g := range strings.FieldsFunc(m[3], func(r rune) bool { return r == ',' }) {
		c.Groups = append(c.Groups, number(g))
	}
	return c, ownCredRight(c) && credOwnText(c) == text
}

// after is how a line leaves a table, and what it tells; false of what is no line.
func (d table) after(line string) (table, string, bool) {
	m := deskShape.FindStringSubmatch(line)
	if m == nil {
		return d, "", false
	}
	ok, told := true, "ok"
	switch m[1] {
	case "as":
		d.c, ok = ownCredRead(m[2])
	case "umask":
		d.umask, _ = strconv.ParseInt(m[2], 8, 64)
		ok = octShape.MatchString(m[2])
	case "do":
		out := ownLine(d.tree, d.c, d.umask, m[2])
		told = out.Told
		if out.Code != impl.OK {
			return d, fmt.Sprintf("error %d", out.Code), true
		}
		d.tree = out.Tree
	case "nfs":
		w := ownWalk(d.tree, d.c, m[2], true)
		ok = oneWord.MatchString(m[2])
		switch {
		case w.Code != impl.OK:
			told = fmt.Sprintf("error %d", w.Code)
		case w.Node == 0:
			told = "error 6"
		default:
			told = nfsOwnText(ownToNfs(d.tree.Nodes[w.Node-1].Acl, 0))
		}
	}
	return d, told, ok
}

// ownDesk tells anew what a desk answers.
func ownDesk(text string) impl.DeskOut {
	if len(text) > 8000 {
		return impl.DeskOut{Code: impl.ErrSize}
	}
	d, all := newTable(), ""
	for i := int64(0); text != ""; i++ {
		end := strings.IndexByte(text, '\n')
		if end < 0 || i == 40 {
			return impl.DeskOut{Line: i, Code: impl.ErrSyntax}
		}
		left, told, ok := d.after(text[:end])
		if !ok {
			return impl.DeskOut{Line: i, Code: impl.ErrSyntax}
		}
		d, all, text = left, all+told+"\n", text[end+1:]
	}
	return impl.DeskOut{Text: all}
}

// wantDesk asks for what a desk answers; DeskFault is held against it each time.
func wantDesk(t *testing.T, text string, want impl.DeskOut) {
	t.Helper()
	if got := impl.DeskRun(text); got != want {
		t.Errorf("%s: got %+v, want %+v", shownDesk(text), got, want)
	}
	want.Text = ""
	if got := impl.DeskFault(text); got != want {
		t.Errorf("the fault of %s: got %+v, want %+v", shownDesk(text), got, want)
	}
}

func shownDesk(text string) string {
	return fmt.Sprintf("%d bytes %q", len(text), text[:min(len(text), 3000)])
}

// wantToldTwice asks for what the second telling says, and hands it on.
func wantToldTwice(t *testing.T, text string) impl.DeskOut {
	t.Helper()
	want := ownDesk(text)
	wantDesk(t, text, want)
	return want
}

// deskOf puts lines together to the text of a desk.
func deskOf(lines []string) string {
	text := ""
	for _, line := range lines {
		text += line + "\n"
	}
	return text
}

// deskLine draws a line that is one, upon a table: the line behind do, and the path behind nfs, may be wrong.
func (s *steps) deskLine(d table) string {
	if d.tree.Now == 0 && s.next(3) > 0 {
		return "do chmod " + []string{"0777", "1777", "3777"}[s.next(3)] + " /"
	}
	switch s.next(12) {
	case 0, 1:
		all := askers()
		return "as " + credOwnText(all[s.next(len(all))])
	case 2:
		return "umask " + []string{"0000", "0022", "0077", "7777", fmt.Sprintf("%04o", s.next(4096))}[s.next(5)]
	case 3, 4:
		return "nfs " + append(wrongPaths(), s.toward(d.tree), s.toward(d.tree), s.toward(d.tree), s.toward(d.tree))[s.next(4+len(wrongPaths()))]
	case 5, 6, 7:
		return "do " + s.lineAt(d.tree, []string{"mkdir", "create", "symlink"}[s.next(3)], d.c)
	case 8:
		return "do " + []string{"", " list /", "list  /", "what", "do list /", "umask 0022"}[s.next(6)]
	}
	return "do " + s.oneLine(s.lineAt(d.tree, scriptWords[s.next(len(scriptWords))], d.c))
}

// oneLine takes out what would cut a line of a script in two.
func (s *steps) oneLine(line string) string {
	return strings.ReplaceAll(line, "\n", "")
}

func wrongPaths() []string {
	return []string{"", "x", "/a\t/b", "/" + part13}
}

// deskLines draws lines, each upon what the ones ahead leave.
func (s *steps) deskLines(count int) []string {
	d := newTable()
	var lines []string
	for range count {
		line := s.oneLine(s.deskLine(d))
		lines = append(lines, line)
		d, _, _ = d.after(line)
	}
	return lines
}

// noDeskLines are none of a desk, though each would do something if it were taken lightly.
func noDeskLines() []string {
	out := []string{"", " ", "\t", "\r", "/", "list /", "stat /", "mkdir 0777 /d", "AS 0:0:", "As 0:0:", "a 0:0:", "ass 0:0:", "su 0:0:", "d list /", "don list /", "DO list /", "Do list /", "nf /", "nfs4 /", "NFS /", "umas 0022", "umasks 0022", "UMASK 0022", "error 3", "ok", "#", "# as 0:0:",
		"as", "do", "nfs", "umask", "as\t0:0:", "do\tlist /", "nfs\t/", "umask\t0022", "as:0:0:", "do/list", "nfs/", "umask0022", "do\u00a0list /", "\xffdo list /", "do\x00 list /", "\ufeffdo list /",
		"as ", "as 0", "as 0:0", "as 0:0:,", "as 0:0:**", "as *", "as 0:0: ", "as  0:0:", "as 0:0:*\r", "as 0:0:\t", "as root", "as 00:0:", "as 10000:0:", "as 0:10000:", "as 0:0:10000", "as 0:0:2,1", "as 0:0:1,1", "as -1:0:", "as 0:0:0,1,2,3,4,5,6,7,8", "as 1:2:3 x", "as x 1:2:3",
		"umask ", "umask 0", "umask 22", "umask 022", "umask 00022", "umask 0028", "umask 9999", "umask  0022", "umask 0022 ", "umask 0022\r", "umask 0o22", "umask -022", "umask +022", "umask rwxr-xr-x", "umask 0022 0022", "umask u=rwx", "umask \u0660\u0660\u0662\u0662",
		"nfs / x", "nfs / /", "nfs / ", "nfs  /", "nfs  ", "nfs   ", "nfs x ", "nfs  x", "nfs x y", "nfs /d /d", "nfs /a b c", "nfs /\t ", "nfs \t /", "nfs / \r", "nfs /none x", "nfs /" + part13 + " x", "nfs nfs /", "nfs as 0:0:", "nfs /ado list  /", "nfs /" + strings.Repeat("a/", 30) + " "}
	for _, line := range rightDeskLines() {
		word, rest, _ := strings.Cut(line, " ")
		out = append(out, " "+line, "\t"+line, "x "+line, "0:0: "+line, word, word+"\t"+rest, word+rest, strings.ToUpper(word)+" "+rest, strings.ToUpper(word[:1])+line[1:])
	}
	return out
}

// rightDeskLines are lines of each word, all of which are done without a fault.
func rightDeskLines() []string {
	return []string{"as 0:0:*", "as 5:7:", "as 9999:0:1,2,3*", "as 0:9999:0,1,2,3,4,5,6,7", "umask 0000", "umask 0022", "umask 7777", "do list /", "do stat /", "nfs /"}
}

// Desks that are drawn, right and spoiled, against the second telling.
func TestDesksToldTwice(t *testing.T) {
	s := steps(1300)
	codes, lines := map[int64]int{}, map[int64]int{}
	for range 1500 {
		drawn := s.deskLines([]int{0, 1, 2, 5, 12, 39, 40, 41, 42}[s.next(9)])
		text := deskOf(drawn)
		if s.next(2) == 0 {
			text = s.spoiledDesk(drawn)
		}
		got := wantToldTwice(t, text)
		codes[got.Code]++
		if got.Code == impl.ErrSyntax {
			lines[got.Line]++
		}
		if t.Failed() {
			t.FailNow()
		}
	}
	if codes[impl.OK] < 200 || codes[impl.ErrSyntax] < 200 || lines[0] < 20 || lines[40] < 20 || len(lines) < 30 {
		t.Errorf("the codes came %v, the lines %v: too little was asked", codes, lines)
	}
}

// spoiledDesk is the text of a desk in which something is wrong, as often as not.
func (s *steps) spoiledDesk(lines []string) string {
	none := noDeskLines()
	for range 1 + s.next(3) {
		if len(lines) > 0 && s.next(2) == 0 {
			lines[s.next(len(lines))] = none[s.next(len(none))]
		}
	}
	text := deskOf(lines)
	if text == "" {
		return []string{"", "\n", "as", "do list /"}[s.next(4)]
	}
	i := s.next(len(text))
	switch s.next(6) {
	case 0:
		return text[:len(text)-1]
	case 1:
		return text[:i]
	case 2:
		return text[:i] + string([]byte{byte(s.next(256))}) + text[i:]
	case 3:
		return text[:i] + "\n" + text[i:]
	case 4:
		return strings.ReplaceAll(text, "\n", []string{"\r\n", "\n\n", "\r"}[s.next(3)])
	}
	return text
}

// All texts that are one sign, one word or one line away from a desk, against the second telling.
func TestTextsNearADesk(t *testing.T) {
	for _, text := range []string{"as 5:7:1,9\numask 0022\ndo mkdir 0777 /d\nnfs /d\n", "umask 0077\nas 0:0:*\ndo create 0666 /f\ndo stat /f\n", "nfs /\n", "do list /\n", "as 0:0:*\n", "umask 7777\n"} {
		seen := map[int64]int{}
		for _, between := range []string{" ", "\n"} {
			near(text, "07 /*:,as\n\r\x00\xff", between, func(close string) {
				seen[wantToldTwice(t, close).Code]++
			})
		}
		if seen[impl.OK] < 1 || seen[impl.ErrSyntax] < 20 {
			t.Errorf("%q: the codes came %v: too little was asked", text, seen)
		}
	}
}

// Whatever text is given, a desk answers, and as the second telling does.
func TestWhateverDesksAreGiven(t *testing.T) {
	s := steps(1313)
	texts := []string{"", "\n", " ", "\x00", "\xff", tooLong, tooLong[1:], strings.Repeat("\n", 8000), strings.Repeat("\n", 8001), strings.Repeat("do \n", 2000), strings.Repeat("do \n", 41), strings.Repeat("do \n", 40), strings.Repeat(" ", 8000), strings.Repeat("as 0:0:\n", 1<<17), strings.Repeat("\xff\n", 4000),
		"as " + strings.Repeat("0", 7996) + "\n", "as 0:0:" + strings.Repeat(",", 7992) + "\n", "as " + strings.Repeat(":", 7996) + "\n", "umask " + strings.Repeat("0", 7993) + "\n", "nfs /" + strings.Repeat("/", 7994) + "\n", "nfs /" + strings.Repeat("a/", 28) + "\n", "do list /" + strings.Repeat("/", 50) + "\n", strings.Repeat("nfs ", 1999) + "/\n"}
	for _, text := range texts {
		wantToldTwice(t, text)
	}
	for range 20000 {
		text := ""
		for range s.next(5) {
			some := make([]byte, s.next(30))
			for i := range some {
				some[i] = byte(s.next(256))
			}
			text += []string{"", "as ", "do ", "do list ", "nfs ", "nfs /", "umask "}[s.next(7)] + string(some) + []string{"\n", "\n", "\n", ""}[s.next(4)]
		}
		wantToldTwice(t, text)
		if t.Failed() {
			t.FailNow()
		}
	}
}
