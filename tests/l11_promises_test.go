package tests

import (
	"fmt"
	"slices"
	"strings"
	"testing"

	"loop.example/g00622/impl"
)

// opened is a tree that has lived, in which as often as not everybody may change all names, and there is time left.
func (s *steps) opened() impl.Tree {
	t := s.lived()
	if s.next(2) == 0 {
		return t
	}
	t.Now = min(t.Now, 5000)
	for i := range t.Nodes {
		n := &t.Nodes[i]
		n.Tick = min(n.Tick, t.Now)
		if n.Kind == impl.KdDir {
			n.Acl = impl.AclOf(0o777)
		}
	}
	return t
}

// lineAt draws a line of a word, upon something of a tree that is somebody's own, or that is not.
func (s *steps) lineAt(t impl.Tree, word string, c impl.Cred) string {
	x := s.lineAsked(t, word)
	x.c = c
	if word == "chown" && s.next(2) == 0 {
		x.uid = c.Uid
	}
	line := lineOf(word, x)
	if s.next(5) == 0 {
		return s.spoiled(line)
	}
	return line
}

// wantNotTheirsAsItWas asks of each node that was there, is there still and is not theirs for what it had.
func wantNotTheirsAsItWas(t *testing.T, line string, c impl.Cred, before impl.Tree, after impl.Tree) (strange int, own int) {
	t.Helper()
	if len(before.Nodes) != len(after.Nodes) {
		t.Fatalf("%s by %+v: there were %d nodes, and there are %d", shownLine(line), c, len(before.Nodes), len(after.Nodes))
	}
	for i, n := range before.Nodes {
		if n.Kind == impl.KdFree || after.Nodes[i].Kind == impl.KdFree {
			continue
		}
		was, is := guardOf(before, int64(i)+1), guardOf(after, int64(i)+1)
		if n.Owner == c.Uid {
			if was != is {
				own++
			}
			continue
		}
		strange++
		if was != is || n.Kind != after.Nodes[i].Kind || n.Body != after.Nodes[i].Body {
			t.Fatalf("%s by %+v in %+v: the node %d was %+v, and is %+v", shownLine(line), c, before, i+1, was, is)
		}
	}
	return strange, own
}

// Promise 21: whatever line, by an owner, one of the group, one who is named, and others, of drawn trees.
func TestNoLineChangesWhatIsNotTheirs(t *testing.T) {
	s := steps(21)
	done, refused, strange, own := map[string]int{}, map[string]int{}, map[string]int{}, map[string]int{}
	codes := map[int64]int{}
	all := askers()[1:]
	for range 4000 {
		tree := s.opened()
		before := copyOfTree(tree)
		c := all[s.next(len(all))]
		for _, word := range scriptWords {
			line := s.lineAt(tree, word, c)
			got := impl.LineDo(tree, c, int64(s.next(4096)), line)
			codes[got.Code]++
			if got.Code != impl.OK {
				refused[word]++
				if len(got.Tree.Nodes) > 0 {
					t.Fatalf("%s by %+v: a tree beside the code %d", shownLine(line), c, got.Code)
				}
				continue
			}
			done[word]++
			others, theirs := wantNotTheirsAsItWas(t, line, c, tree, got.Tree)
			strange[word] += others
			own[word] += theirs
		}
		wantSameTree(t, "what was handed in", tree, before)
	}
	for _, word := range scriptWords {
		if done[word] < 40 || refused[word] < 40 || strange[word] < 60 {
			t.Errorf("%s: done %d times, refused %d times, %d that are not theirs stayed: too little was asked", word, done[word], refused[word], strange[word])
		}
		if slices.Contains(setWords, word) != (own[word] > 10) {
			t.Errorf("%s: %d that are theirs were changed: too little was asked, or too much", word, own[word])
		}
	}
	for _, code := range []int64{impl.ErrForm, impl.ErrSyntax, impl.ErrNone, impl.ErrThere, impl.ErrFull, impl.ErrAccess, impl.ErrNotDir, impl.ErrOwner} {
		if codes[code] < 20 {
			t.Errorf("the code %d came %d times: too little was asked", code, codes[code])
		}
	}
}

// Promise 21, along whole lives of trees: line upon line, each by somebody else who is not root.
func TestNoLifeOfLinesChangesWhatIsNotTheirs(t *testing.T) {
	s := steps(2121)
	all := askers()[1:]
	done := map[string]int{}
	for range 150 {
		tree := impl.TreeNew(0, 0, 0o1777).Tree
		for range 150 {
			word, c := scriptWords[s.next(len(scriptWords))], all[s.next(len(all))]
			line := s.lineAt(tree, word, c)
			got := impl.LineDo(tree, c, 0o022, line)
			if got.Code != impl.OK {
				continue
			}
			wantNotTheirsAsItWas(t, line, c, tree, got.Tree)
			if !impl.TreeRight(got.Tree) || !ownTreeRight(got.Tree) {
				t.Fatalf("after %s the tree is not right: %+v", shownLine(line), got.Tree)
			}
			done[word]++
			tree = got.Tree
		}
	}
	for _, word := range scriptWords {
		if done[word] < 20 {
			t.Errorf("%s was done %d times: too little was asked", word, done[word])
		}
	}
}

// Promise 21 by hand: what is open to all is still its owner's to set; root may.
func TestLinesUponWhatIsNotTheirsByHand(t *testing.T) {
	open := changed(yard(), func(t *impl.Tree) {
		for i := range t.Nodes[:9] {
			n := &t.Nodes[i]
			n.Owner, n.Group, n.Acl = 3, 2, masked(named(5, 7, 9, 7), named(2, 7, 7, 7), 7)
			n.Acl.Other = 7
		}
	})
	for _, c := range walkers() {
		for _, path := range []string{"/", "/d", "/d/e", "/ld", "/f", "/lf", "/d/g"} {
			dir := !slices.Contains([]string{"/f", "/lf", "/d/g"}, path)
			for _, line := range []string{"chmod 0700 ", "chmod 7777 ", "chown 3 2 ", fmt.Sprintf("chown %d %d ", c.Uid, c.Gid), "setacl user::---,group::---,other::--- ", "default user::---,group::---,other::--- ", "share "} {
				switch {
				case !c.Root:
					wantLineCode(t, open, c, 0, line+path, impl.ErrOwner)
				case !dir && (strings.HasPrefix(line, "default") || line == "share "):
					wantLineCode(t, open, c, 0, line+path, impl.ErrNotDir)
				default:
					if got := impl.LineDo(open, c, 0, line+path); got.Told != "ok" || got.Code != impl.OK {
						t.Errorf("%q by root: got %+v", line+path, got)
					}
				}
			}
		}
		// To name, to move and to take away is let, and changes none of what is still there.
		for _, line := range []string{"mkdir 7777 /d/n", "create 7777 /n", "symlink x /n", "link /f /d/e/x", "rename /f /d/e/x", "rename /d/g /f", "rename /d /x", "unlink /f", "rmdir /d/e", "unlink /lf"} {
			got := impl.LineDo(open, c, 0, line)
			if got.Code != impl.OK {
				t.Errorf("%q by %+v: got %+v", line, c, got)
				continue
			}
			wantNotTheirsAsItWas(t, line, impl.Cred{Uid: 77}, open, got.Tree)
		}
	}
}

// drawnLines are lines of all words, right and spoiled, for a tree that the ones ahead change as the program does.
func (s *steps) drawnLines(t impl.Tree, c impl.Cred, umask int64, count int) []string {
	var lines []string
	for range count {
		line := s.lineAt(t, scriptWords[s.next(len(scriptWords))], c)
		lines = append(lines, line)
		if got := ownLine(t, c, umask, line); got.Code == impl.OK {
			t = got.Tree
		}
	}
	return lines
}

// Promise 23: lines together do what they do one by one; cut anywhere, both halves do what all do.
func TestLinesTogetherAndOneByOne(t *testing.T) {
	s := steps(23)
	seen := map[string]int{}
	for i := range 2000 {
		tree := impl.TreeNew(0, 0, 0o1777).Tree
		if i%2 == 0 {
			tree = s.opened()
		}
		c, umask := askers()[s.next(8)], []int64{0, 0o022, 0o077, 4095, int64(s.next(4096))}[s.next(5)]
		lines := s.drawnLines(tree, c, umask, []int{0, 1, 2, 5, 12, 39, 40}[s.next(7)])
		before := copyOfTree(tree)
		got := impl.Script(tree, c, umask, lines)
		left, told := copyOfTree(tree), ""
		for _, line := range lines {
			one := impl.LineDo(left, c, umask, line)
			word, _, _ := strings.Cut(line, " ")
			if one.Code != impl.OK {
				told += fmt.Sprintf("error %d\n", one.Code)
				seen["error"]++
				continue
			}
			left = one.Tree
			told += one.Told + "\n"
			seen[word]++
		}
		if !sameLineOut(got, impl.LineOut{Tree: left, Told: told}) {
			t.Fatalf("%q by %+v in %+v: got %+v, want %q and %+v", lines, c, tree, got, told, left)
		}
		if second := ownScript(tree, c, umask, lines); !sameLineOut(got, second) {
			t.Fatalf("%q by %+v in %+v: got %+v, want %+v", lines, c, tree, got, second)
		}
		if strings.Count(got.Told, "\n") != len(lines) || !ownTreeRight(got.Tree) {
			t.Fatalf("%q by %+v in %+v: got %+v", lines, c, tree, got)
		}
		cut := s.next(len(lines) + 1)
		first := impl.Script(tree, c, umask, lines[:cut])
		rest := impl.Script(first.Tree, c, umask, lines[cut:])
		if !sameLineOut(got, impl.LineOut{Tree: rest.Tree, Told: first.Told + rest.Told}) {
			t.Fatalf("%q by %+v in %+v, cut at %d: got %+v and %+v, want %+v", lines, c, tree, cut, first, rest, got)
		}
		wantSameTree(t, "what was handed in", tree, before)
	}
	for _, word := range append([]string{"error"}, scriptWords...) {
		if seen[word] < 20 {
			t.Errorf("%s came %d times: too little was asked", word, seen[word])
		}
	}
}
