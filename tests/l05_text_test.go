package tests

import (
	"math"
	"reflect"
	"slices"
	"strconv"
	"strings"
	"testing"

	"loop.example/g00622/impl"
)

var bitsOwnTexts = []string{"---", "--x", "-w-", "-wx", "r--", "r-x", "rw-", "rwx"}

// aclOwnText tells the text anew, apart from the program.
func aclOwnText(a impl.Acl) string {
	text := "user::" + bitsOwnTexts[a.User]
	for _, n := range a.Users {
		text += ",user:" + strconv.Itoa(int(n.Id)) + ":" + bitsOwnTexts[n.Bits]
	}
	text += ",group::" + bitsOwnTexts[a.Group]
	for _, n := range a.Groups {
		text += ",group:" + strconv.Itoa(int(n.Id)) + ":" + bitsOwnTexts[n.Bits]
	}
	if a.Masked {
		text += ",mask::" + bitsOwnTexts[a.Mask]
	}
	return text + ",other::" + bitsOwnTexts[a.Other]
}

// aceOwnText tells the text anew, apart from the program, also of some that are not right.
func aceOwnText(x impl.Ace) string {
	kind := map[bool]string{true: "A", false: "D"}[x.Allow]
	who := []string{"", "OWNER@", "GROUP@", "EVERYONE@", "u", "g"}[x.Who]
	if x.Who > 3 {
		who += strconv.Itoa(int(x.Id))
	}
	return kind + ":" + ownSigns(x.Flags, "f", "d", "n", "i") + ":" + who + ":" + ownSigns(x.Mask, "r", "w", "x", "a", "d", "c", "C", "o")
}

func ownSigns(set int64, signs ...string) string {
	text := ""
	for _, s := range signs {
		if set%2 == 1 {
			text += s
		}
		set /= 2
	}
	return text
}

func nfsOwnText(l []impl.Ace) string {
	var texts []string
	for _, x := range l {
		texts = append(texts, aceOwnText(x))
	}
	return strings.Join(texts, ",")
}

func wantAce(t *testing.T, text string, want impl.AceOut) {
	t.Helper()
	if got := impl.AceRead(text); got != want {
		t.Errorf("AceRead(%.80q): got %+v, want %+v", text, got, want)
	}
}

// eachAce goes through every Who, with the ids that may be of it, every Flags and every Mask, as Allow and Deny.
func eachAce(yield func(impl.Ace)) {
	for _, who := range []impl.Ace{{Who: 1}, {Who: 2}, {Who: 3}, {Who: 4}, {Who: 4, Id: 10}, {Who: 4, Id: 9999}, {Who: 5}, {Who: 5, Id: 305}, {Who: 5, Id: 9999}} {
		for _, flags := range rightFlags {
			for mask := int64(1); mask < 256; mask++ {
				yield(allow(who.Who, who.Id, flags, mask))
				yield(deny(who.Who, who.Id, flags, mask))
			}
		}
	}
}

// Promise 11.
func TestListsOfNamesComeBackFromText(t *testing.T) {
	for _, a := range rightAcls() {
		text := impl.AclText(a)
		if want := aclOwnText(a); text != want {
			t.Errorf("AclText(%+v): got %q, want %q", a, text, want)
		}
		wantAcl(t, text, impl.AclRead(text), impl.AclOut{Acl: a})
	}
	for n := range int64(4096) {
		a := impl.Acl{User: n % 8, Group: n / 8 % 8, Other: n / 64 % 8, Masked: true, Mask: n / 512}
		wantAcl(t, aclOwnText(a), impl.AclRead(aclOwnText(a)), impl.AclOut{Acl: a})
		a.Masked, a.Mask = false, 0
		wantAcl(t, aclOwnText(a), impl.AclRead(aclOwnText(a)), impl.AclOut{Acl: a})
		if impl.AclText(a) != aclOwnText(a) {
			t.Errorf("AclText(%+v): got %q", a, impl.AclText(a))
		}
	}
	for id := range int64(10000) {
		a := masked(named(id, id%8), named(9999-id, id/8%8), 5)
		if text := impl.AclText(a); text != aclOwnText(a) || !sameAcl(impl.AclRead(text).Acl, a) {
			t.Errorf("%+v has the text %q, which is read as %+v", a, text, impl.AclRead(text))
		}
	}
}

// Promise 11.
func TestListsOfNamesAsTextByHand(t *testing.T) {
	rows := map[string]impl.Acl{
		"user::---,group::---,other::---":                                                                             {},
		"user::rwx,group::r-x,other::--x":                                                                             {User: 7, Group: 5, Other: 1},
		"user::rwx,group::r-x,mask::---,other::--x":                                                                   {User: 7, Group: 5, Other: 1, Masked: true},
		"user::rw-,user:0:r--,user:9999:-w-,group::---,group:10:rwx,mask::rwx,other::r--":                             {User: 6, Other: 4, Masked: true, Mask: 7, Users: named(0, 4, 9999, 2), Groups: named(10, 7)},
		"user::---,group::---,group:2:---,group:10:--x,mask::---,other::---":                                          {Masked: true, Groups: named(2, 0, 10, 1)},
		"user::---,user:1:---,user:2:---,user:3:---,user:4:---,user:5:---,user:6:---,group::---,mask::---,other::---": {Masked: true, Users: named(1, 0, 2, 0, 3, 0, 4, 0, 5, 0, 6, 0)},
	}
	for text, a := range rows {
		if got := impl.AclText(a); got != text {
			t.Errorf("AclText(%+v): got %q, want %q", a, got, text)
		}
		wantAcl(t, text, impl.AclRead(text), impl.AclOut{Acl: a})
	}
	for i, a := range wrongAcls() {
		if got := impl.AclText(a); got != "" {
			t.Errorf("list %d that is not right has the text %.200q", i, got)
		}
	}
}

// Promise 11.
func TestTextsOfNoListOfNames(t *testing.T) {
	texts := []string{"", ",", ":", "::", ",,", "user", "user:", "user::", "user::rwx", "group::rwx", "other::rwx", "mask::rwx", "user::rwx,", " ", "\n", "-", "OK",
		// Something is left out, or there twice.
		"user::rwx,group::r-x", "user::rwx,other::--x", "group::r-x,other::--x", "user::rwx,group::r-x,mask::rwx", "user::rwx,group::r-x,other::--x,other::--x", "user::rwx,user::rwx,group::r-x,other::--x",
		"user::rwx,group::r-x,group::r-x,other::--x", "user::rwx,group::r-x,mask::r--,mask::r--,other::--x", "user::---,user::---,group::---,other::---", "user::---,group::---", "group::---,other::---",
		"user::rwx,group::r-x,other::--x,user::rwx,group::r-x,other::--x",
		// In another order.
		"group::r-x,user::rwx,other::--x", "user::rwx,other::--x,group::r-x", "other::--x,group::r-x,user::rwx", "user::rwx,group::r-x,other::--x,mask::r--", "user::rwx,mask::r--,group::r-x,other::--x",
		"user:5:r--,user::rwx,group::r-x,mask::r--,other::--x", "user::rwx,group::r-x,user:5:r--,mask::r--,other::--x", "user::rwx,group:5:r--,group::r-x,mask::r--,other::--x",
		"user::rwx,group::r-x,mask::r--,group:5:r--,other::--x", "user::rwx,group::r-x,mask::r--,other::--x,group:5:r--", "user::rwx,group:5:r--,user:5:r--,group::r-x,mask::r--,other::--x",
		// Ids that do not rise.
		"user::rwx,user:5:r--,user:5:r--,group::r-x,mask::r--,other::--x", "user::rwx,user:5:r--,user:4:r--,group::r-x,mask::r--,other::--x", "user::rwx,user:10:r--,user:9:r--,group::r-x,mask::r--,other::--x",
		"user::rwx,group::r-x,group:5:r--,group:5:rw-,mask::r--,other::--x", "user::rwx,group::r-x,group:1:r--,group:3:r--,group:2:r--,mask::r--,other::--x",
		// Ids that are none.
		"user::rwx,user:05:r--,group::r-x,mask::r--,other::--x", "user::rwx,user:00:r--,group::r-x,mask::r--,other::--x", "user::rwx,user:10000:r--,group::r-x,mask::r--,other::--x",
		"user::rwx,user:-1:r--,group::r-x,mask::r--,other::--x", "user::rwx,user:+1:r--,group::r-x,mask::r--,other::--x", "user::rwx,user:x:r--,group::r-x,mask::r--,other::--x", "user::rwx,user: 5:r--,group::r-x,mask::r--,other::--x",
		"user::rwx,group::r-x,group:010:r--,mask::r--,other::--x", "user::rwx,group::r-x,group:18446744073709551621:r--,mask::r--,other::--x", "user:0:rwx,group::r-x,mask::r--,other::--x", "user::rwx,group:0:r-x,mask::r--,other::--x",
		"user::rwx,group::r-x,mask:5:r--,other::--x", "user::rwx,group::r-x,mask:0:r--,other::--x", "user::rwx,group::r-x,other:0:--x", "user::rwx,group::r-x,other:5:--x",
		// A mask has to be there if somebody is named.
		"user::rwx,user:5:r--,group::r-x,other::--x", "user::rwx,group::r-x,group:5:r--,other::--x", "user::rwx,user:5:---,group::---,other::---",
		// Too many are named.
		"user::---,user:1:---,user:2:---,user:3:---,user:4:---,user:5:---,user:6:---,user:7:---,group::---,mask::---,other::---",
		"user::---,group::---,group:1:---,group:2:---,group:3:---,group:4:---,group:5:---,group:6:---,group:7:---,mask::---,other::---",
		// Bits that are none.
		"user::wrx,group::r-x,other::--x", "user::rwX,group::r-x,other::--x", "user::rws,group::r-x,other::--x", "user::rw,group::r-x,other::--x", "user::rwx-,group::r-x,other::--x", "user::7,group::5,other::1",
		"user::,group::r-x,other::--x", "user::xwr,group::r-x,other::--x", "user::-r-,group::r-x,other::--x", "user::rwx,group::r-x,mask::,other::--x", "user::RWX,group::r-x,other::--x",
		// Words, signs and blanks that do not belong there.
		"User::rwx,group::r-x,other::--x", "u::rwx,g::r-x,o::--x", "users::rwx,group::r-x,other::--x", "user::rwx,groups::r-x,other::--x", "owner::rwx,group::r-x,other::--x", "user::rwx,group::r-x,others::--x", "user::rwx,group::r-x,umask::r--,other::--x",
		",user::rwx,group::r-x,other::--x", "user::rwx,group::r-x,other::--x,", "user::rwx,,group::r-x,other::--x", "user::rwx group::r-x other::--x", "user::rwx, group::r-x,other::--x", " user::rwx,group::r-x,other::--x",
		"user::rwx,group::r-x,other::--x ", "user::rwx,group::r-x,other::--x\n", "user::rwx\ngroup::r-x\nother::--x", "user::rwx,group::r-x,other::--x\x00", "user::rwx;group::r-x;other::--x", "user:rwx,group:r-x,other:--x", "user:::rwx,group::r-x,other::--x",
		"user::rwx:,group::r-x,other::--x", ":user::rwx,group::r-x,other::--x", "::rwx,group::r-x,other::--x", ":5:rwx", "user=rwx,group::r-x,other::--x", "default:user::rwx,group::r-x,other::--x", "\xff", "user::\xff\xff\xff,group::r-x,other::--x",
		"user::rwx,user:٥:r--,group::r-x,mask::r--,other::--x"}
	for _, text := range texts {
		wantAcl(t, text, impl.AclRead(text), impl.AclOut{Code: impl.ErrSyntax})
	}
}

// near goes through the texts that are one sign or one part away from a text.
func near(text string, signs string, between string, yield func(string)) {
	for i := range len(text) + 1 {
		for _, s := range []byte(signs) {
			yield(text[:i] + string([]byte{s}) + text[i:])
			if i < len(text) {
				yield(text[:i] + string([]byte{s}) + text[i+1:])
			}
		}
		yield(text[:i])
		yield(text[i:])
		if i < len(text) {
			yield(text[:i] + text[i+1:])
		}
	}
	parts := strings.Split(text, between)
	for i := range parts {
		yield(strings.Join(slices.Delete(slices.Clone(parts), i, i+1), between))
		for j := range parts {
			swapped := slices.Clone(parts)
			swapped[i], swapped[j] = swapped[j], swapped[i]
			yield(strings.Join(swapped, between))
			yield(strings.Join(slices.Insert(slices.Clone(parts), j, parts[i]), between))
		}
	}
}

// Promise 11: a text that is close to one is read only if it is the own text of what is read.
func TestTextsNearAListOfNames(t *testing.T) {
	for _, text := range []string{"user::rwx,group::r-x,other::--x", "user::r--,group::---,mask::-wx,other::rwx", "user::rw-,user:5:rw-,user:19:---,group::r--,group:0:--x,group:9999:r--,mask::rw-,other::---"} {
		near(text, "0159:,rwx- ug\x00\xff", ",", func(close string) {
			got := impl.AclRead(close)
			if got.Code == impl.OK {
				if !impl.AclRight(got.Acl) || aclOwnText(got.Acl) != close {
					t.Errorf("%q is read as %+v", close, got.Acl)
				}
				return
			}
			wantAcl(t, close, got, impl.AclOut{Code: impl.ErrSyntax})
		})
	}
}

// Promise 12.
func TestAcesComeBackFromText(t *testing.T) {
	eachAce(func(x impl.Ace) {
		text := impl.AceText(x)
		if want := aceOwnText(x); text != want {
			t.Errorf("AceText(%+v): got %q, want %q", x, text, want)
		}
		wantAce(t, text, impl.AceOut{Ace: x})
	})
	for id := range int64(10000) {
		for _, x := range []impl.Ace{allow(impl.WhUser, id, 0, 1), deny(impl.WhNamed, id, 15, 255)} {
			if text := impl.AceText(x); text != aceOwnText(x) || impl.AceRead(text) != (impl.AceOut{Ace: x}) {
				t.Errorf("%+v has the text %q, which is read as %+v", x, text, impl.AceRead(text))
			}
		}
	}
	for _, x := range wrongAces() {
		if got := impl.AceText(x); got != "" {
			t.Errorf("AceText(%+v): got %q", x, got)
		}
	}
}

// Promise 12.
func TestAcesAsTextByHand(t *testing.T) {
	rows := map[string]impl.Ace{
		"A::OWNER@:r":               allow(impl.WhOwner, 0, 0, 1),
		"D::GROUP@:o":               deny(impl.WhGroup, 0, 0, 128),
		"A:fdni:EVERYONE@:rwxadcCo": allow(impl.WhEvery, 0, 15, 255),
		"A:fd:u5:rwo":               allow(impl.WhUser, 5, 3, 131),
		"D:di:u0:dC":                deny(impl.WhUser, 0, 10, 80),
		"D:fn:g9999:xac":            deny(impl.WhNamed, 9999, 5, 44),
		"A:d:g10:w":                 allow(impl.WhNamed, 10, 2, 2),
	}
	for text, x := range rows {
		if got := impl.AceText(x); got != text {
			t.Errorf("AceText(%+v): got %q, want %q", x, got, text)
		}
		wantAce(t, text, impl.AceOut{Ace: x})
	}
}

// Promise 12.
func TestTextsOfNoAce(t *testing.T) {
	texts := []string{"", ":", "::", ":::", "::::", "A", "A:", "A::", "A:::", "A::OWNER@", "A::OWNER@:", "A:OWNER@:r", "A::r", "::OWNER@:r", "A::OWNER@:r:", ":A::OWNER@:r", "A:::OWNER@:r", "A::OWNER@::r", "A::OWNER@:r:r", "A::OWNER@:r,",
		// Signs in another order, twice, unknown or none.
		"A:df:OWNER@:r", "A:ff:OWNER@:r", "A:fdfd:OWNER@:r", "A:nf:OWNER@:r", "A:if:OWNER@:r", "A:fin:OWNER@:r", "A:x:OWNER@:r", "A:F:OWNER@:r", "A:g:OWNER@:r", "A:-:OWNER@:r", "A:0:OWNER@:r", "A:fd ni:OWNER@:r",
		"A::OWNER@:wr", "A::OWNER@:rr", "A::OWNER@:xw", "A::OWNER@:Cc", "A::OWNER@:cc", "A::OWNER@:or", "A::OWNER@:rwxadcCor", "A::OWNER@:rwxadcoC", "A::OWNER@:da", "A::OWNER@:R", "A::OWNER@:D", "A::OWNER@:-", "A::OWNER@:r-x", "A::OWNER@:n",
		"A::OWNER@:f", "A::OWNER@:r w", "A::OWNER@:1",
		// Flags that are not right: once or only, and nothing that is handed on.
		"A:n:OWNER@:r", "A:i:OWNER@:r", "A:ni:OWNER@:r",
		// Somebody who is none.
		"A:::r", "A::u:r", "A::g:r", "A::5:r", "A::U5:r", "A::G5:r", "A::uu5:r", "A::ug5:r", "A::u5g:r", "A::u05:r", "A::u00:r", "A::g010:r", "A::u10000:r", "A::g99999:r", "A::u-1:r", "A::u+1:r", "A::u 5:r", "A::u5 :r", "A::g4294967296:r",
		"A::g18446744073709551617:r", "A::OWNER@5:r", "A::OWNER@0:r", "A::5OWNER@:r", "A::uOWNER@:r", "A::OWNER:r", "A::owner@:r", "A::Owner@:r", "A::GROUP:r", "A::group@:r", "A::GROUP@1:r", "A::gGROUP@:r", "A::EVERYONE:r", "A::EVERYONE@0:r",
		"A::everyone@:r", "A::EVERY@:r", "A::OWNER@GROUP@:r", "A::@:r", "A::OWNER@@:r", "A::u٥:r", "A::x5:r", "A::o:r", "A::u5@:r",
		// What is neither allow nor deny.
		"a::OWNER@:r", "d::OWNER@:r", "B::OWNER@:r", "AD::OWNER@:r", "AA::OWNER@:r", "DA::OWNER@:r", "U::OWNER@:r", "L::OWNER@:r", "1::OWNER@:r",
		// Blanks and other bytes.
		" A::OWNER@:r", "A::OWNER@:r ", "A: :OWNER@:r", "A:: OWNER@:r", "A::OWNER@: r", "A::OWNER@:r\n", "A::OWNER@:r\x00", "\xff::OWNER@:r", "A:\xff:OWNER@:r", "A::\xff:r", "A::OWNER@:\xff", "A;;OWNER@;r", "A::OWNER@:r,A::OWNER@:r", ",", "A,:OWNER@:r"}
	for _, text := range texts {
		wantAce(t, text, impl.AceOut{Code: impl.ErrSyntax})
		if text != "" && text != "A::OWNER@:r,A::OWNER@:r" {
			wantNfs(t, text, impl.NfsRead(text), impl.NfsOut{Code: impl.ErrSyntax})
		}
	}
	// The texts that some would have that are not right.
	for _, flags := range []int64{4, 8, 12} {
		wantAce(t, aceOwnText(allow(impl.WhGroup, 0, flags, 3)), impl.AceOut{Code: impl.ErrSyntax})
	}
	for _, id := range []int64{-1, 10000, math.MaxInt64, math.MinInt64} {
		wantAce(t, aceOwnText(allow(impl.WhUser, id, 0, 3)), impl.AceOut{Code: impl.ErrSyntax})
		wantAce(t, aceOwnText(deny(impl.WhNamed, id, 3, 3)), impl.AceOut{Code: impl.ErrSyntax})
	}
	wantAce(t, aceOwnText(allow(impl.WhEvery, 0, 3, 0)), impl.AceOut{Code: impl.ErrSyntax})
}

// Promise 12: a text that is close to one is read only if it is the own text of what is read.
func TestTextsNearAListInOrder(t *testing.T) {
	for _, text := range []string{"A::OWNER@:r", "D:fdni:EVERYONE@:rwxadcCo", "A:fd:u5:rwo", "D:dn:g9999:cC"} {
		near(text, "0159:,rwxadcCofniADug@ OGE\x00\xff", ":", func(close string) {
			got := impl.AceRead(close)
			if got.Code == impl.OK && (!impl.AceRight(got.Ace) || aceOwnText(got.Ace) != close) {
				t.Errorf("%q is read as %+v", close, got.Ace)
			}
			if got.Code != impl.OK && got != (impl.AceOut{Code: impl.ErrSyntax}) {
				t.Errorf("%q is read as %+v", close, got)
			}
		})
	}
	for _, text := range []string{"A:fd:u5:rwo,D::EVERYONE@:x", "D:d:GROUP@:rw,D:d:GROUP@:rw,A::g0:a"} {
		near(text, "05:,rxadofnADug@ ", ",", func(close string) {
			got := impl.NfsRead(close)
			if got.Code == impl.OK && nfsOwnText(got.List) != close {
				t.Errorf("%q is read as %+v", close, got.List)
			}
			if got.Code != impl.OK {
				wantNfs(t, close, got, impl.NfsOut{Code: impl.ErrSyntax})
			}
		})
	}
}

// Promise 12.
func TestListsInOrderComeBackFromText(t *testing.T) {
	for _, l := range append(rightLists(), lots(2), lots(impl.MaxAces-1)) {
		text := impl.NfsText(l)
		if want := nfsOwnText(l); text != want {
			t.Errorf("NfsText(%+v): got %q, want %q", l, text, want)
		}
		wantNfs(t, text, impl.NfsRead(text), impl.NfsOut{List: l})
	}
	if got := impl.NfsText([]impl.Ace{allow(impl.WhUser, 5, 3, 131), deny(impl.WhEvery, 0, 0, 4), deny(impl.WhEvery, 0, 0, 4)}); got != "A:fd:u5:rwo,D::EVERYONE@:x,D::EVERYONE@:x" {
		t.Errorf("three: got %q", got)
	}
	if impl.NfsText(nil) != "" || impl.NfsText([]impl.Ace{}) != "" {
		t.Error("a list without an item has the empty text")
	}
	for i, l := range append(wrongLists(), tooLongLists()...) {
		if got := impl.NfsText(l); got != "" {
			t.Errorf("list %d of %d, which is not right, has the text %.100q", i, len(l), got)
		}
	}
}

// Promise 12.
func TestTextsOfNoListInOrder(t *testing.T) {
	one := "A::OWNER@:r"
	texts := []string{",", ",,", " ", "x", "\n", one + ",", "," + one, one + ",," + one, one + ", " + one, one + " " + one, one + ";" + one, one + "\n" + one, one + "," + one + ",", one + one, one + ",D::OWNER@", one + ",D::OWNER@:", "D:i:OWNER@:r," + one,
		one + ",A::u10000:r", one + ",A::u01:r,", nfsOwnText(lots(impl.MaxAces + 1)), nfsOwnText(lots(impl.MaxAces)) + ",", nfsOwnText(lots(impl.MaxAces)) + ",x", nfsOwnText(lots(200)),
		strings.Repeat(one+",", impl.MaxAces) + one, strings.Repeat(",", impl.MaxAces), "\xff," + one}
	for _, text := range texts {
		wantNfs(t, text, impl.NfsRead(text), impl.NfsOut{Code: impl.ErrSyntax})
	}
	wantNfs(t, "thirty-two alike", impl.NfsRead(strings.Repeat(one+",", impl.MaxAces-1)+one), impl.NfsOut{List: slices.Repeat([]impl.Ace{allow(impl.WhOwner, 0, 0, 1)}, impl.MaxAces)})
}

// Promises 11 and 12: what is too long is refused as such, ahead of all else; what is just not too long is read.
func TestTooLongTextsOfLists(t *testing.T) {
	acl, ace := "user::rwx,group::r-x,other::--x", "A::OWNER@:r"
	for _, sign := range []string{"x", ",", ":", " ", "\x00", "\xff", "0", "A", acl + ",", ace + ","} {
		for _, head := range []string{"", acl, ace, "A::u", "A::OWNER@:", "user::"} {
			long := (head + strings.Repeat(sign, impl.MaxBytes+1))[:impl.MaxBytes+1]
			for _, text := range []string{long, long + long} {
				wantAcl(t, "too long", impl.AclRead(text), impl.AclOut{Code: impl.ErrSize})
				wantAce(t, text, impl.AceOut{Code: impl.ErrSize})
				wantNfs(t, "too long", impl.NfsRead(text), impl.NfsOut{Code: impl.ErrSize})
			}
			full := long[:impl.MaxBytes]
			wantAcl(t, "full", impl.AclRead(full), impl.AclOut{Code: impl.ErrSyntax})
			wantAce(t, full, impl.AceOut{Code: impl.ErrSyntax})
			wantNfs(t, "full", impl.NfsRead(full), impl.NfsOut{Code: impl.ErrSyntax})
		}
	}
}

func TestListsAsTextShareNothing(t *testing.T) {
	for _, base := range rightAcls() {
		a := base
		a.Users, a.Groups = roomy(base.Users), roomy(base.Groups)
		before, users, groups := copyOfAcl(a), slices.Clone(a.Users[:cap(a.Users)]), slices.Clone(a.Groups[:cap(a.Groups)])
		text := impl.AclText(a)
		if !sameAcl(a, before) || !slices.Equal(users, a.Users[:cap(a.Users)]) || !slices.Equal(groups, a.Groups[:cap(a.Groups)]) {
			t.Fatalf("AclText changed %+v to %+v", before, a)
		}
		one, two := impl.AclRead(text).Acl, impl.AclRead(text).Acl
		scribble(one.Users)
		if !slices.Equal(one.Groups, two.Groups) || !sameAcl(two, base) {
			t.Fatalf("%q: two lists of answers share memory", text)
		}
	}
	for _, base := range rightLists() {
		l := append(make([]impl.Ace, 0, 80), base...)
		room := copyOfList(l[:cap(l)])
		text := impl.NfsText(l)
		if !slices.Equal(room, l[:cap(l)]) {
			t.Fatalf("NfsText changed %+v to %+v", room, l)
		}
		scribbleAces(impl.NfsRead(text).List)
		wantNfs(t, text, impl.NfsRead(text), impl.NfsOut{List: base})
	}
}

// Whatever it is given, each call answers: with numbers at the ends of int64, lists of very many, and texts of any bytes.
func TestListsAsTextAlwaysAnswer(t *testing.T) {
	ends := []int64{math.MinInt64, math.MinInt64 + 1, -1, 0, 1, 5, 7, 8, 255, 256, math.MaxInt64 - 1, math.MaxInt64}
	for _, n := range ends {
		for _, m := range ends {
			a := impl.Acl{User: n, Group: m, Other: n, Mask: m, Masked: true, Users: named(n, m), Groups: named(m, n)}
			if got := impl.AclText(a); impl.AclRight(a) != (got != "") {
				t.Errorf("AclText(%+v): got %q", a, got)
			}
			for _, x := range []impl.Ace{allow(n, m, n, m), deny(4, n, 3, m), allow(1, 0, m, n), allow(5, m, n, 1)} {
				if got := impl.AceText(x); impl.AceRight(x) != (got != "") || impl.NfsText([]impl.Ace{x}) != got {
					t.Errorf("AceText(%+v): got %q", x, got)
				}
			}
		}
	}
	s := steps(11)
	const signs = "AD:,fdniurwxacCog0159@-sermkht OWNERGUPVY\x00\xff"
	for range 20000 {
		text := make([]byte, s.next(40))
		for i := range text {
			text[i] = signs[s.next(len(signs))]
		}
		if got := impl.AclRead(string(text)); got.Code != impl.OK && !reflect.DeepEqual(got, impl.AclOut{Code: impl.ErrSyntax}) {
			t.Errorf("AclRead(%q): got %+v", text, got)
		}
		if got := impl.AceRead(string(text)); got.Code != impl.OK && got != (impl.AceOut{Code: impl.ErrSyntax}) {
			t.Errorf("AceRead(%q): got %+v", text, got)
		}
		if got := impl.NfsRead(string(text)); got.Code != impl.OK && !reflect.DeepEqual(got, impl.NfsOut{Code: impl.ErrSyntax}) {
			t.Errorf("NfsRead(%q): got %+v", text, got)
		}
	}
	for b := range 256 {
		one := string([]byte{byte(b)})
		wantAcl(t, one, impl.AclRead(one), impl.AclOut{Code: impl.ErrSyntax})
		wantAce(t, one, impl.AceOut{Code: impl.ErrSyntax})
		wantNfs(t, one, impl.NfsRead(one), impl.NfsOut{Code: impl.ErrSyntax})
		wantAce(t, "A::"+one+":r", impl.AceOut{Code: impl.ErrSyntax})
	}
}
