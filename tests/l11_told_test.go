package tests

import (
	"fmt"
	"reflect"
	"regexp"
	"slices"
	"strconv"
	"strings"
	"testing"

	"loop.example/g00622/impl"
)

// callOfWord says which call a word of a script stands for; getacl stands for none.
var callOfWord = map[string]string{
	"mkdir": "Mkdir", "create": "Create", "symlink": "Symlink", "link": "Link", "unlink": "Unlink", "rmdir": "Rmdir", "rename": "Rename", "chmod": "Chmod", "chown": "Chown", "setacl": "SetAcl",
	"default": "SetDefault", "share": "SetDefault", "access": "Access", "stat": "Stat", "lstat": "Stat", "list": "ReadDir", "getacl": "",
}

var (
	scriptWords = []string{"mkdir", "create", "symlink", "link", "unlink", "rmdir", "rename", "chmod", "chown", "setacl", "default", "share", "access", "stat", "lstat", "list", "getacl"}
	lookWords   = []string{"access", "stat", "lstat", "list", "getacl"}
	setWords    = []string{"chmod", "chown", "setacl", "default", "share"}
)

// A line's shapes, by its words: what stands in brackets is taken out.
var lineShapes = []*regexp.Regexp{
	regexp.MustCompile(`^(mkdir|create|chmod) ([0-7]{4}) ([^ ]+)$`),
	regexp.MustCompile(`^(symlink|link|rename) ([^ ]+) ([^ ]+)$`),
	regexp.MustCompile(`^(unlink|rmdir|share|stat|lstat|list|getacl) ([^ ]+)$`),
	regexp.MustCompile(`^(chown) (0|[1-9][0-9]{0,8}) (0|[1-9][0-9]{0,8}) ([^ ]+)$`),
	regexp.MustCompile(`^(setacl|default) ([^ ]+) ([^ ]+)$`),
	regexp.MustCompile(`^(access) ([r-][w-][x-]) ([^ ]+)$`),
}

var aclEntry = regexp.MustCompile(`(user|group|mask|other):([0-9]*):([r-][w-][x-])`)

// ownAclRead puts a list together from whatever entries it finds, and takes it if its own text is what was read.
func ownAclRead(text string) (impl.Acl, bool) {
	var a impl.Acl
	for _, e := range aclEntry.FindAllStringSubmatch(text, -1) {
		bits := int64(slices.Index(bitsOwnTexts, e[3]))
		id, _ := strconv.ParseInt(e[2], 10, 32)
		switch {
		case e[1] == "user" && e[2] != "":
			a.Users = append(a.Users, impl.Named{Id: id, Bits: bits})
		case e[1] == "group" && e[2] != "":
			a.Groups = append(a.Groups, impl.Named{Id: id, Bits: bits})
		case e[1] == "user":
			a.User = bits
		case e[1] == "group":
			a.Group = bits
		case e[1] == "mask":
			a.Masked, a.Mask = true, bits
		default:
			a.Other = bits
		}
	}
	return a, impl.AclRight(a) && aclOwnText(a) == text
}

// ownAsked takes a line apart, apart from the program: the word, and the call with all that the line says.
func ownAsked(c impl.Cred, umask int64, line string) (string, asked, bool) {
	for _, shape := range lineShapes {
		m := shape.FindStringSubmatch(line)
		if m == nil {
			continue
		}
		x := asked{call: callOfWord[m[1]], c: c, path: m[len(m)-1]}
		ok := true
		switch m[1] {
		case "mkdir", "create":
			x.mode, _ = strconv.ParseInt(m[2], 8, 64)
			x.umask = umask
		case "chmod":
			x.mode, _ = strconv.ParseInt(m[2], 8, 64)
		case "symlink":
			x.body = m[2]
		case "link", "rename":
			x.old = m[2]
		case "chown":
			x.uid, _ = strconv.ParseInt(m[2], 10, 64)
			x.gid, _ = strconv.ParseInt(m[3], 10, 64)
		case "setacl":
			x.list, ok = ownAclRead(m[2])
		case "default":
			x.list, ok = ownAclRead(m[2])
			x.shared = true
		case "access":
			x.want = int64(slices.Index(bitsOwnTexts, m[2]))
		case "stat":
			x.follow = true
		}
		return m[1], x, ok
	}
	return "", asked{}, false
}

// ownLine tells anew, apart from the program, what a line answers.
func ownLine(t impl.Tree, c impl.Cred, umask int64, line string) impl.LineOut {
	if len(line) > 8000 {
		return impl.LineOut{Code: impl.ErrSize}
	}
	if !ownTreeRight(t) || !ownCredRight(c) || umask < 0 || umask > 4095 {
		return impl.LineOut{Code: impl.ErrForm}
	}
	word, x, ok := ownAsked(c, umask, line)
	if !ok {
		return impl.LineOut{Code: impl.ErrSyntax}
	}
	if word == "getacl" {
		w := ownWalk(t, c, x.path, true)
		if w.Code == impl.OK && w.Node == 0 {
			w.Code = impl.ErrNone
		}
		if w.Code != impl.OK {
			return impl.LineOut{Code: w.Code}
		}
		return impl.LineOut{Tree: copyOfTree(t), Told: aclOwnText(t.Nodes[w.Node-1].Acl)}
	}
	return ownLineOut(t, word, ownAsk(t, x))
}

// ownLineOut tells what a call answered as its line does.
func ownLineOut(t impl.Tree, word string, got told) impl.LineOut {
	if word == "access" && got.code == impl.ErrAccess {
		return impl.LineOut{Tree: copyOfTree(t), Told: "no"}
	}
	if got.code != impl.OK {
		return impl.LineOut{Code: got.code}
	}
	switch word {
	case "mkdir", "create", "symlink":
		return impl.LineOut{Tree: got.tree, Told: fmt.Sprint(got.node)}
	case "access":
		return impl.LineOut{Tree: copyOfTree(t), Told: "yes"}
	case "stat", "lstat":
		kind := map[int64]string{impl.KdDir: "d", impl.KdFile: "-", impl.KdLink: "l"}[got.stat.Kind]
		return impl.LineOut{Tree: copyOfTree(t), Told: fmt.Sprintf("%s%s %d %d %d", kind, modeOwnText(int(got.stat.Mode)), got.stat.Owner, got.stat.Group, got.stat.Links)}
	case "list":
		if len(got.names) == 0 {
			got.names = []string{"-"}
		}
		return impl.LineOut{Tree: copyOfTree(t), Told: strings.Join(got.names, ",")}
	}
	return impl.LineOut{Tree: got.tree, Told: "ok"}
}

// ownScript tells anew what lines answer, one after the other.
func ownScript(t impl.Tree, c impl.Cred, umask int64, lines []string) impl.LineOut {
	if len(lines) > 400 {
		return impl.LineOut{Code: impl.ErrSize}
	}
	if len(lines) > 40 || !ownTreeRight(t) || !ownCredRight(c) || umask < 0 || umask > 4095 {
		return impl.LineOut{Code: impl.ErrForm}
	}
	out := impl.LineOut{Tree: copyOfTree(t)}
	for _, line := range lines {
		got := ownLine(out.Tree, c, umask, line)
		if got.Code != impl.OK {
			out.Told += fmt.Sprintf("error %d\n", got.Code)
			continue
		}
		out.Tree = got.Tree
		out.Told += got.Told + "\n"
	}
	return out
}

func sameLineOut(a impl.LineOut, b impl.LineOut) bool {
	return reflect.DeepEqual(copyOfTree(a.Tree), copyOfTree(b.Tree)) && a.Told == b.Told && a.Code == b.Code
}

func shownLine(line string) string {
	return fmt.Sprintf("%q", line[:min(len(line), 120)])
}

func wantLine(t *testing.T, tree impl.Tree, c impl.Cred, umask int64, line string, want impl.LineOut) {
	t.Helper()
	if got := impl.LineDo(tree, c, umask, line); !sameLineOut(got, want) {
		t.Errorf("%s by %+v with %o in %+v: got %+v, want %+v", shownLine(line), c, umask, tree, got, want)
	}
	if second := ownLine(tree, c, umask, line); !sameLineOut(second, want) {
		t.Errorf("the second telling of %s by %+v: %+v, want %+v", shownLine(line), c, second, want)
	}
}

// wantLineCode asks for a code with the zero answer beside it.
func wantLineCode(t *testing.T, tree impl.Tree, c impl.Cred, umask int64, line string, code int64) {
	t.Helper()
	wantLine(t, tree, c, umask, line, impl.LineOut{Code: code})
}

// lineOf is the line that says what is asked.
func lineOf(word string, x asked) string {
	mode := fmt.Sprintf("%04o", x.mode)
	switch word {
	case "mkdir", "create", "chmod":
		return word + " " + mode + " " + x.path
	case "symlink":
		return word + " " + x.body + " " + x.path
	case "link", "rename":
		return word + " " + x.old + " " + x.path
	case "chown":
		return fmt.Sprintf("chown %d %d %s", x.uid, x.gid, x.path)
	case "setacl", "default":
		return word + " " + aclOwnText(x.list) + " " + x.path
	case "access":
		return word + " " + bitsOwnTexts[x.want] + " " + x.path
	}
	return word + " " + x.path
}

// lineAsked draws what a line of a word asks.
func (s *steps) lineAsked(t impl.Tree, word string) asked {
	call := callOfWord[word]
	if word == "getacl" {
		call = "Stat"
	}
	x := s.asked(t, call)
	if call == "SetDefault" {
		x.shared = word == "default"
	}
	if word == "share" {
		x.list = impl.Acl{}
	}
	x.follow = word == "stat"
	return x
}

// spoiled is a line in which something is wrong, as often as not; what is wrong may still be a line.
func (s *steps) spoiled(line string) string {
	words := strings.Split(line, " ")
	at := s.next(len(words))
	switch s.next(14) {
	case 0:
		return " " + line
	case 1:
		return line + " "
	case 2:
		return strings.Replace(line, " ", "  ", 1)
	case 3:
		return strings.Join(slices.Delete(words, at, at+1), " ")
	case 4:
		return strings.Join(slices.Insert(words, at, "/a"), " ")
	case 5:
		words[at] = strings.ToUpper(words[at])
	case 6:
		words[at] = "0" + words[at]
	case 7:
		words[at] = words[at][min(1, len(words[at])):]
	case 8:
		words[at] = []string{"-1", "0888", "777", "+5", "1234567890", "123456789", "rwz", "user::rwx", "a", "\xff", "/\n"}[s.next(11)]
	case 9:
		words[0] = scriptWords[s.next(len(scriptWords))]
	case 10:
		i := s.next(len(line))
		return line[:i] + string([]byte{byte(s.next(256))}) + line[i:]
	case 11:
		i := s.next(len(line))
		return line[:i] + string([]byte{byte(s.next(256))}) + line[i+1:]
	case 12:
		return line[:s.next(len(line))]
	default:
		words[len(words)-1] = []string{"a", "./a", "/" + part13, "/" + strings.Repeat("a/", 30), "/\x7f", "/\xc3\xa4"}[s.next(6)]
	}
	return strings.Join(words, " ")
}

// callTold is what the call that a line names answers, told as the line tells it; it asks the program's own call.
func callTold(t impl.Tree, word string, x asked) impl.LineOut {
	if word == "getacl" {
		w := impl.Walk(t, x.c, x.path, true)
		switch {
		case w.Code != impl.OK:
			return impl.LineOut{Code: w.Code}
		case w.Node == 0:
			return impl.LineOut{Code: impl.ErrNone}
		}
		return impl.LineOut{Tree: t, Told: impl.AclText(impl.NodeOf(t, w.Node).Acl)}
	}
	return ownLineOut(t, word, ask(t, x))
}

// Each word, of drawn trees, against the call that it names, and against the second telling.
func TestEachWordIsItsCall(t *testing.T) {
	for i, word := range scriptWords {
		t.Run(word, func(t *testing.T) {
			s := steps(1100 + i)
			seen := map[int64]int{}
			for range 500 {
				tree := s.lived()
				for range 6 {
					x := s.lineAsked(tree, word)
					line, umask := lineOf(word, x), x.umask
					if i > 1 { // the umask is given, and says nothing of what is not made by a mode
						umask = int64(s.next(4096))
					}
					got := impl.LineDo(tree, x.c, umask, line)
					if want := callTold(tree, word, x); !sameLineOut(got, want) {
						t.Fatalf("%s by %+v with %o in %+v: got %+v, want %+v", shownLine(line), x.c, umask, tree, got, want)
					}
					if second := ownLine(tree, x.c, umask, line); !sameLineOut(got, second) {
						t.Fatalf("%s by %+v with %o in %+v: got %+v, want %+v", shownLine(line), x.c, umask, tree, got, second)
					}
					if got.Code == impl.OK && !ownTreeRight(got.Tree) {
						t.Fatalf("%s in %+v: %+v is not right", shownLine(line), tree, got.Tree)
					}
					seen[got.Code]++
				}
			}
			want := []int64{impl.OK, impl.ErrNone, impl.ErrAccess, impl.ErrNotDir, impl.ErrLoop}
			if word != "getacl" {
				want = codesOf(callOfWord[word])
			}
			for _, code := range want {
				if seen[code] < 3 && (word != "access" || code != impl.ErrAccess) {
					t.Errorf("the code %d came %d times: too little was asked", code, seen[code])
				}
			}
			if word == "access" && seen[impl.ErrAccess] > 0 {
				t.Error("access tells no, and not the code")
			}
		})
	}
}

// Lines that are spoiled, against the second telling.
func TestSpoiledLinesToldTwice(t *testing.T) {
	s := steps(1200)
	seen, words := map[int64]int{}, map[string]int{}
	for range 3000 {
		tree := s.lived()
		for _, word := range scriptWords {
			x := s.lineAsked(tree, word)
			line := s.spoiled(lineOf(word, x))
			if s.next(4) == 0 && line != "" {
				line = s.spoiled(line)
			}
			got, want := impl.LineDo(tree, x.c, x.umask, line), ownLine(tree, x.c, x.umask, line)
			if !sameLineOut(got, want) {
				t.Fatalf("%s by %+v with %o in %+v: got %+v, want %+v", shownLine(line), x.c, x.umask, tree, got, want)
			}
			seen[got.Code]++
			if got.Code == impl.ErrSyntax {
				words[word]++
			}
		}
	}
	for _, code := range []int64{impl.OK, impl.ErrForm, impl.ErrSyntax, impl.ErrNone, impl.ErrRange, impl.ErrAccess, impl.ErrNotDir} {
		if seen[code] < 50 {
			t.Errorf("the code %d came %d times: too little was asked", code, seen[code])
		}
	}
	for _, word := range scriptWords {
		if words[word] < 50 {
			t.Errorf("%s was no line %d times: too little was asked", word, words[word])
		}
	}
}

// All texts that are one sign or one word away from a line, against the second telling.
func TestTextsNearALine(t *testing.T) {
	tree := yard()
	for _, line := range []string{"mkdir 0750 /n", "create 0640 /n", "symlink d/g /n", "link /f /n", "unlink /f", "rmdir /d/e", "rename /f /n", "chmod 4755 /f", "chown 5 17 /f", "setacl user::rw-,user:5:r--,group::---,mask::r--,other::--- /f",
		"default user::rwx,group::---,other::--- /d", "share /d", "access r-x /d", "stat /ld", "lstat /ld", "list /d", "getacl /f"} {
		if got := impl.LineDo(tree, asRoot, 0o022, line); got.Code != impl.OK {
			t.Errorf("%q is a line: got %+v", line, got)
		}
		near(line, "07 /-ra:,\t\n\x00\xff", " ", func(close string) {
			if got, want := impl.LineDo(tree, asRoot, 0o022, close), ownLine(tree, asRoot, 0o022, close); !sameLineOut(got, want) {
				t.Errorf("%q: got %+v, want %+v", close, got, want)
			}
		})
	}
}
