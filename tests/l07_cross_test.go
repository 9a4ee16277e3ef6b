package tests

import (
	"math"
	"slices"
	"strings"
	"testing"

	"loop.example/g00622/impl"
)

func rightsOwn(bits int64) int64 {
	return bits/4%2 + bits/2%2*10 + bits%2*4
}

// ownToNfs tells a list of names as one in order anew, apart from the program.
func ownToNfs(a impl.Acl, flags int64) []impl.Ace {
	var out []impl.Ace
	put := func(allows bool, who int64, id int64, bits int64) {
		if bits != 0 {
			out = append(out, impl.Ace{Allow: allows, Who: who, Id: id, Flags: flags, Mask: rightsOwn(bits)})
		}
	}
	class := ownGroupClass(a)
	put(true, impl.WhOwner, 0, a.User)
	put(false, impl.WhOwner, 0, 7-a.User)
	for _, n := range a.Users {
		put(true, impl.WhUser, n.Id, n.Bits&a.Mask)
		put(false, impl.WhUser, n.Id, 7-n.Bits&a.Mask)
	}
	put(true, impl.WhGroup, 0, a.Group&class)
	for _, n := range a.Groups {
		put(true, impl.WhNamed, n.Id, n.Bits&a.Mask)
	}
	put(false, impl.WhGroup, 0, 7-a.Group&class)
	for _, n := range a.Groups {
		put(false, impl.WhNamed, n.Id, 7-n.Bits&a.Mask)
	}
	put(true, impl.WhEvery, 0, a.Other)
	return out
}

// ownBack is the list of names that comes back: what its mask took is gone, and the mask is as narrow as it may be.
func ownBack(a impl.Acl) impl.Acl {
	out := copyOfAcl(a)
	out.Masked, out.Mask, out.Group = false, 0, a.Group&ownGroupClass(a)
	for _, list := range [][]impl.Named{out.Users, out.Groups} {
		for i := range list {
			list[i].Bits &= a.Mask
		}
	}
	if len(out.Users)+len(out.Groups) > 0 {
		out.Masked, out.Mask = true, ownMask(out)
	}
	return out
}

// crossedAcls are all those asked elsewhere, each mode, and those with as many as may be named, each of bits of its own.
func crossedAcls() []impl.Acl {
	out := askedAcls()
	for mode := range int64(512) {
		out = append(out, impl.Acl{User: mode / 64, Group: mode / 8 % 8, Other: mode % 8})
	}
	for mask := range int64(8) {
		for bits := range int64(8) {
			out = append(out, masked(named(0, bits, 9999, 7-bits), named(0, 7-bits, 9999, bits), mask), masked(named(5, bits), named(7, bits), mask),
				impl.Acl{User: 7 - bits, Group: bits, Other: mask, Masked: true, Mask: mask},
				impl.Acl{Group: bits, Users: named(1, 0, 2, 1, 3, 2, 4, 3, 5, 4, 9999, bits), Groups: named(0, 5, 1, 6, 2, 7, 3, bits, 7, 0, 9999, 1), Masked: true, Mask: mask})
		}
	}
	return out
}

// Promise 13, and of DefaultNfs promise 14.
func TestListsOfNamesAsOnesInOrder(t *testing.T) {
	for _, a := range crossedAcls() {
		got, handed := impl.ToNfs(a), impl.DefaultNfs(a)
		wantList(t, "ToNfs of "+aclOwnText(a), got, ownToNfs(a, 0))
		wantList(t, "DefaultNfs of "+aclOwnText(a), handed, ownToNfs(a, impl.FlFile|impl.FlDir|impl.FlOnly))
		if !impl.NfsRight(got) || !impl.NfsRight(handed) || len(got) == 0 {
			t.Errorf("%s: %+v or %+v is not right", aclOwnText(a), got, handed)
		}
	}
	six := named(0, 1, 1, 2, 2, 3, 3, 4, 4, 5, 9999, 6)
	longest := impl.Acl{User: 1, Group: 1, Other: 1, Users: six, Groups: six, Masked: true, Mask: 7}
	wantList(t, "the longest", impl.ToNfs(longest), ownToNfs(longest, 0))
	if l := impl.ToNfs(longest); len(l) != 29 || !impl.NfsRight(l) {
		t.Errorf("the longest one there is has 29, not %d", len(l))
	}
}

// Promise 13, and of DefaultNfs promise 14.
func TestListsOfNamesAsOnesInOrderByHand(t *testing.T) {
	rows := []struct {
		a    impl.Acl
		want string
	}{
		{impl.Acl{}, "D::OWNER@:rwxa,D::GROUP@:rwxa"},
		{impl.AclOf(0o777), "A::OWNER@:rwxa,A::GROUP@:rwxa,A::EVERYONE@:rwxa"},
		{impl.AclOf(0o421), "A::OWNER@:r,D::OWNER@:wxa,A::GROUP@:wa,D::GROUP@:rx,A::EVERYONE@:x"},
		{impl.AclOf(0o7640), "A::OWNER@:rwa,D::OWNER@:x,A::GROUP@:r,D::GROUP@:wxa"},
		{impl.Acl{User: 7, Group: 6, Masked: true, Mask: 5}, "A::OWNER@:rwxa,A::GROUP@:r,D::GROUP@:wxa"},
		{impl.Acl{User: 7, Group: 6, Masked: true}, "A::OWNER@:rwxa,D::GROUP@:rwxa"},
		{masked(named(5, 6), nil, 5), "A::OWNER@:rwa,D::OWNER@:x,A::u5:r,D::u5:wxa,A::GROUP@:r,D::GROUP@:wxa,A::EVERYONE@:x"},
		{masked(named(5, 0), nil, 7), "A::OWNER@:rwa,D::OWNER@:x,D::u5:rwxa,A::GROUP@:r,D::GROUP@:wxa,A::EVERYONE@:x"},
		{masked(named(5, 7), nil, 7), "A::OWNER@:rwa,D::OWNER@:x,A::u5:rwxa,A::GROUP@:r,D::GROUP@:wxa,A::EVERYONE@:x"},
		{masked(nil, named(5, 7, 7, 2), 6), "A::OWNER@:rwa,D::OWNER@:x,A::GROUP@:r,A::g5:rwa,A::g7:wa,D::GROUP@:wxa,D::g5:x,D::g7:rx,A::EVERYONE@:x"},
		{masked(named(0, 7, 9999, 1), named(0, 1, 9999, 7), 7),
			"A::OWNER@:rwa,D::OWNER@:x,A::u0:rwxa,A::u9999:x,D::u9999:rwa,A::GROUP@:r,A::g0:x,A::g9999:rwxa,D::GROUP@:wxa,D::g0:rwa,A::EVERYONE@:x"},
		{masked(named(1, 1, 2, 2), named(3, 3), 0), "A::OWNER@:rwa,D::OWNER@:x,D::u1:rwxa,D::u2:rwxa,D::GROUP@:rwxa,D::g3:rwxa,A::EVERYONE@:x"},
	}
	for _, r := range rows {
		if got := impl.NfsText(impl.ToNfs(r.a)); got != r.want {
			t.Errorf("ToNfs of %s: got %s, want %s", aclOwnText(r.a), got, r.want)
		}
		if got, want := impl.NfsText(impl.DefaultNfs(r.a)), strings.ReplaceAll(r.want, "::", ":fdi:"); got != want {
			t.Errorf("DefaultNfs of %s: got %s, want %s", aclOwnText(r.a), got, want)
		}
	}
}

// Promises 13 and 14.
func TestListsOfNamesThatAreNotRightAreNoneInOrder(t *testing.T) {
	for i, a := range wrongAcls() {
		if one, two := impl.ToNfs(a), impl.DefaultNfs(a); len(one)+len(two) != 0 {
			t.Errorf("list %d, of %d and %d named, is not right: got %+v and %+v", i, len(a.Users), len(a.Groups), one, two)
		}
	}
}

// crossedCreds are also in each count of the groups that are asked, with and without Root.
func crossedCreds() []impl.Cred {
	out := slices.Concat(someCreds(), []impl.Cred{{Uid: 5, Gid: 5, Groups: []int64{2, 5, 7}}, {Uid: 1, Gid: 2, Groups: []int64{5, 7}}, {Uid: 8, Gid: 7, Groups: []int64{2}}})
	for _, groups := range [][]int64{nil, {2}, {5}, {7}, {2, 5}, {2, 7}, {5, 7}, {2, 5, 7}, {0, 4, 6, 100, 9999}, {0, 1, 2, 3, 4, 5, 6, 7}} {
		for _, gid := range []int64{2, 3, 5, 7} {
			out = append(out, impl.Cred{Uid: 9, Gid: gid, Groups: groups}, impl.Cred{Uid: 9, Gid: gid, Groups: groups, Root: true})
		}
	}
	return out
}

// ownCount is in how many of the groups, that of the file and those that are named, somebody is.
func ownCount(a impl.Acl, group int64, c impl.Cred) int {
	count := 0
	gids := append([]int64{c.Gid}, c.Groups...)
	slices.Sort(gids)
	for _, gid := range slices.Compact(gids) {
		if gid == group {
			count++
		}
		for _, n := range a.Groups {
			if gid == n.Id {
				count++
			}
		}
	}
	return count
}

// Promise 13.
func TestBothListsLetEverybodyDoTheSame(t *testing.T) {
	together, apart := 0, 0
	for _, a := range crossedAcls() {
		l := impl.ToNfs(a)
		for _, c := range crossedCreds() {
			for _, group := range []int64{2, 5} {
				one := impl.OneGroup(a, group, c)
				for want := range int64(8) {
					_, own := ownClass(a, 1, group, c, want)
					names, order := impl.AclMay(a, 1, group, c, want), impl.NfsMay(l, 1, group, c, impl.NfsBits(want))
					if (one || want == 0 || want == 1 || want == 2 || want == 4) && (names != order || names != own) {
						t.Errorf("%s, group %d, %+v, %d: %v as a list of names, %v in order, not %v", aclOwnText(a), group, c, want, names, order, own)
					}
					if names && !order {
						t.Errorf("%s, group %d, %+v, %d: what may be done together may be done each", aclOwnText(a), group, c, want)
					}
					if want == 7 && names {
						together++
					}
					if names != order {
						apart++
					}
				}
			}
		}
	}
	if together == 0 || apart == 0 {
		t.Errorf("%d may all together, and %d were told apart by their groups", together, apart)
	}
}

// Promise 13: somebody in two groups, each of which lets them do one thing, is told apart, and OneGroup says of whom.
func TestSeveralTogetherByHand(t *testing.T) {
	two := impl.Acl{Group: 4, Groups: named(7, 2), Masked: true, Mask: 7}
	rows := []struct {
		group int64
		c     impl.Cred
		one   bool
		names bool
		order bool
	}{
		{2, impl.Cred{Uid: 9, Gid: 2}, true, false, false},
		{2, impl.Cred{Uid: 9, Gid: 7}, true, false, false},
		{2, impl.Cred{Uid: 9, Gid: 3}, true, false, false},
		{2, impl.Cred{Uid: 9, Gid: 2, Groups: []int64{7}}, false, false, true},
		{2, impl.Cred{Uid: 9, Gid: 3, Groups: []int64{2, 7}, Root: true}, false, false, true},
		{7, impl.Cred{Uid: 9, Gid: 7}, false, false, true},
		{7, impl.Cred{Uid: 9, Gid: 2}, true, false, false},
	}
	for _, r := range rows {
		one := impl.OneGroup(two, r.group, r.c)
		names, order := impl.AclMay(two, 1, r.group, r.c, 6), impl.NfsMay(impl.ToNfs(two), 1, r.group, r.c, impl.NfsBits(6))
		if one != r.one || names != r.names || order != r.order {
			t.Errorf("group %d, %+v: got %v, %v, %v, want %v, %v, %v", r.group, r.c, one, names, order, r.one, r.names, r.order)
		}
	}
}

// Promise 13.
func TestOneGroup(t *testing.T) {
	seen := map[int]int{}
	for _, a := range crossedAcls() {
		for _, c := range crossedCreds() {
			for _, group := range []int64{0, 2, 5, 7, 9999} {
				count := ownCount(a, group, c)
				seen[count]++
				if got := impl.OneGroup(a, group, c); got != (count <= 1) {
					t.Errorf("OneGroup(%s, %d, %+v): got %v, in %d of them", aclOwnText(a), group, c, got, count)
				}
			}
		}
	}
	for count := range 4 {
		if seen[count] == 0 {
			t.Errorf("nobody was in %d of them", count)
		}
	}
}

// Promise 13.
func TestOneGroupByHand(t *testing.T) {
	bare, groups, users := impl.AclOf(0o777), masked(nil, named(5, 1, 7, 0), 0), masked(named(5, 7, 7, 7), nil, 7)
	rows := []struct {
		what  string
		a     impl.Acl
		group int64
		c     impl.Cred
		want  bool
	}{
		{"in none", groups, 2, impl.Cred{Gid: 3}, true},
		{"in the file's", groups, 2, impl.Cred{Gid: 2}, true},
		{"in a named one", groups, 2, impl.Cred{Gid: 3, Groups: []int64{7}}, true},
		{"in a named one by Gid and by Groups", groups, 2, impl.Cred{Gid: 7, Groups: []int64{7}}, true},
		{"in two named ones", groups, 2, impl.Cred{Gid: 5, Groups: []int64{7}}, false},
		{"in the file's and a named one", groups, 2, impl.Cred{Gid: 2, Groups: []int64{5}}, false},
		{"in all", groups, 2, impl.Cred{Gid: 2, Groups: []int64{5, 7}}, false},
		{"in the file's, which is named", groups, 5, impl.Cred{Gid: 5}, false},
		{"in another one than the file's, which is named", groups, 5, impl.Cred{Gid: 7}, true},
		{"in none, and the file's is named", groups, 5, impl.Cred{Gid: 2}, true},
		{"in many, none of them named", bare, 2, impl.Cred{Gid: 2, Groups: []int64{3, 5, 7}}, true},
		{"users are no groups", users, 5, impl.Cred{Uid: 5, Gid: 5, Groups: []int64{7}}, true},
		{"root is asked like others", groups, 2, impl.Cred{Gid: 2, Groups: []int64{5}, Root: true}, false},
		{"the owner is asked like others", groups, 2, impl.Cred{Uid: 0, Gid: 2, Groups: []int64{7}}, false},
		{"the least group", bare, 0, impl.Cred{}, true},
		{"the greatest group", bare, 9999, impl.Cred{Gid: 9999}, true},
	}
	for _, r := range rows {
		if got := impl.OneGroup(r.a, r.group, r.c); got != r.want {
			t.Errorf("%s: got %v", r.what, got)
		}
	}
	for i, a := range wrongAcls() {
		if impl.OneGroup(a, 2, impl.Cred{Gid: 3}) {
			t.Errorf("list %d, of %d and %d named, is not right", i, len(a.Users), len(a.Groups))
		}
	}
	for _, c := range wrongCreds() {
		if impl.OneGroup(bare, 2, c) || impl.OneGroup(bare, c.Gid, c) {
			t.Errorf("%+v is not right", c)
		}
	}
	for _, n := range farNumbers {
		if impl.OneGroup(bare, n, impl.Cred{Gid: 3}) || impl.OneGroup(bare, n, impl.Cred{Gid: n}) {
			t.Errorf("%d is no id", n)
		}
	}
}

// Promise 13.
func TestListsInOrderComeBackAsNames(t *testing.T) {
	for _, a := range crossedAcls() {
		l := impl.ToNfs(a)
		got := impl.ToPosix(l)
		wantAcl(t, "ToPosix of ToNfs of "+aclOwnText(a), got, impl.AclOut{Acl: ownBack(a)})
		wantList(t, "ToNfs of what came back of "+aclOwnText(a), impl.ToNfs(got.Acl), l)
		if !a.Masked || len(a.Users)+len(a.Groups) > 0 && a.Mask == 7 && ownMask(a) == 7 {
			wantAcl(t, "what has nothing to be narrowed", got, impl.AclOut{Acl: a})
		}
		// What is handed on is not of the file itself: with Flags it is none.
		wantAcl(t, "ToPosix of DefaultNfs of "+aclOwnText(a), impl.ToPosix(impl.DefaultNfs(a)), impl.AclOut{Code: impl.ErrNone})
	}
}

// Promise 13.
func TestListsInOrderAsNamesByHand(t *testing.T) {
	none := impl.AclOut{Code: impl.ErrNone}
	rows := []struct {
		text string
		want impl.AclOut
	}{
		{"D::OWNER@:rwxa,D::GROUP@:rwxa", impl.AclOut{}},
		{"A::OWNER@:rwxa,A::GROUP@:rwxa,A::EVERYONE@:rwxa", impl.AclOut{Acl: impl.AclOf(0o777)}},
		{"A::OWNER@:rwa,D::OWNER@:x,A::u5:r,D::u5:wxa,A::GROUP@:x,D::GROUP@:rwa", impl.AclOut{Acl: impl.Acl{User: 6, Group: 1, Users: named(5, 4), Masked: true, Mask: 5}}},
		{"A::OWNER@:rwxa,D::GROUP@:rwxa,D::g7:rwxa", impl.AclOut{Acl: impl.Acl{User: 7, Groups: named(7, 0), Masked: true}}},
		{"A::OWNER@:rwxa,D::u0:rwxa,A::u9999:rwxa,D::GROUP@:rwxa", impl.AclOut{Acl: impl.Acl{User: 7, Users: named(0, 0, 9999, 7), Masked: true, Mask: 7}}},
		{"A::OWNER@:rwxa,A::GROUP@:r,A::g5:wa,D::GROUP@:wxa,D::g5:rx,A::EVERYONE@:x", impl.AclOut{Acl: impl.Acl{User: 7, Group: 4, Other: 1, Groups: named(5, 2), Masked: true, Mask: 6}}},
		{"A::OWNER@:rwxa,A::GROUP@:r,D::GROUP@:wxa,A::g5:wa,D::g5:rx,A::EVERYONE@:x", none},
		{"A::OWNER@:rwxa,A::g5:wa,A::GROUP@:r,D::GROUP@:wxa,D::g5:rx", none},
		{"D::GROUP@:rwxa,D::OWNER@:rwxa", none},
		{"D::OWNER@:rwxa", none},
		{"D::GROUP@:rwxa", none},
		{"A::EVERYONE@:rwxa", none},
		{"D::OWNER@:rwxa,D::GROUP@:rwxa,D::EVERYONE@:rwxa", none},
		{"A::OWNER@:rw,D::OWNER@:xa,D::GROUP@:rwxa", none},
		{"A::OWNER@:rwx,D::GROUP@:rwxa", none},
		{"A::OWNER@:rwxac,A::GROUP@:rwxa", none},
		{"A::OWNER@:rwxadcCo,A::GROUP@:rwxadcCo,A::EVERYONE@:rwxadcCo", none},
		{"A::OWNER@:r,A::OWNER@:wxa,D::GROUP@:rwxa", none},
		{"A::OWNER@:rwxa,A::OWNER@:rwxa,D::GROUP@:rwxa", none},
		{"D::OWNER@:wxa,A::OWNER@:r,D::GROUP@:rwxa", none},
		{"A::OWNER@:rwxa,D::OWNER@:r,D::GROUP@:rwxa", none},
		{"A::OWNER@:rwxa,D::u7:rwxa,D::u5:rwxa,D::GROUP@:rwxa", none},
		{"A::OWNER@:rwxa,D::u5:rwxa,D::u5:rwxa,D::GROUP@:rwxa", none},
		{"A::OWNER@:rwxa,D::GROUP@:rwxa,D::g7:rwxa,D::g5:rwxa", none},
		{"A:f:OWNER@:rwxa,D::GROUP@:rwxa", none},
		{"A::OWNER@:rwxa,D:fdi:GROUP@:rwxa", none},
		{"", none},
	}
	for _, r := range rows {
		in := impl.NfsRead(r.text)
		if in.Code != impl.OK {
			t.Fatalf("%s is no list", r.text)
		}
		wantAcl(t, "ToPosix of "+r.text, impl.ToPosix(in.List), r.want)
	}
	wantAcl(t, "of none", impl.ToPosix(nil), none)
	wantAcl(t, "of an empty list", impl.ToPosix([]impl.Ace{}), none)
}

// As many as may be named come back, and one more do not.
func TestAsManyAsMayBeNamed(t *testing.T) {
	for _, who := range []int64{impl.WhUser, impl.WhNamed} {
		for count := range int64(12) {
			l := []impl.Ace{allow(impl.WhOwner, 0, 0, 15), deny(impl.WhGroup, 0, 0, 15)}
			var list []impl.Named
			for id := range count {
				list = append(list, impl.Named{Id: id})
				at := int64(len(l))
				if who == impl.WhUser {
					at--
				}
				l = impl.AceAdd(l, at, deny(who, id, 0, 15)).List
			}
			want := impl.AclOut{Acl: impl.Acl{User: 7, Masked: count > 0, Users: list}}
			if who == impl.WhNamed {
				want.Acl.Users, want.Acl.Groups = nil, list
			}
			if count > impl.MaxNamed {
				want = impl.AclOut{Code: impl.ErrNone}
			}
			wantAcl(t, "ToPosix of "+nfsOwnText(l), impl.ToPosix(l), want)
		}
	}
}

// someNames are all lists of the ids 5 and 9, of bits that leave out an Allow, a Deny, and neither.
func someNames() [][]impl.Named {
	out := [][]impl.Named{nil}
	for _, one := range []int64{0, 5, 7} {
		out = append(out, named(5, one), named(9, one))
		for _, two := range []int64{0, 5, 7} {
			out = append(out, named(5, one, 9, two))
		}
	}
	return out
}

// knownNames are the lists of names of which a list in order may be, if all its ids and bits are those of someNames.
func knownNames() map[string]impl.Acl {
	known := map[string]impl.Acl{}
	for _, users := range someNames() {
		for _, groups := range someNames() {
			for _, user := range []int64{0, 5, 7} {
				for _, group := range []int64{0, 5, 7} {
					for other := range int64(8) {
						a := impl.Acl{User: user, Group: group, Other: other, Users: users, Groups: groups}
						if len(users)+len(groups) > 0 {
							a.Masked, a.Mask = true, ownMask(a)
						}
						known[nfsOwnText(ownToNfs(a, 0))] = a
					}
				}
			}
		}
	}
	return known
}

// nearLists are all those that are one step away: one left out, twice, elsewhere, or another one in its place.
func nearLists(l []impl.Ace, yield func([]impl.Ace)) {
	for i, x := range l {
		without := slices.Delete(copyOfList(l), i, i+1)
		yield(without)
		for at := range len(l) {
			yield(slices.Insert(copyOfList(without), at, x))
			yield(slices.Insert(copyOfList(l), at, x))
		}
		put := func(change func(*impl.Ace)) {
			changed := copyOfList(l)
			change(&changed[i])
			yield(changed)
		}
		put(func(x *impl.Ace) { x.Allow = !x.Allow })
		put(func(x *impl.Ace) { x.Mask, x.Allow = 16-x.Mask, !x.Allow })
		for _, flags := range []int64{1, 2, 3, 11} {
			put(func(x *impl.Ace) { x.Flags = flags })
		}
		for right := int64(1); right < 256; right *= 2 {
			put(func(x *impl.Ace) { x.Mask ^= right })
		}
		for _, kind := range []impl.Ace{{Who: impl.WhOwner}, {Who: impl.WhGroup}, {Who: impl.WhEvery}, {Who: impl.WhUser, Id: 5}, {Who: impl.WhUser, Id: 9}, {Who: impl.WhNamed, Id: 5}, {Who: impl.WhNamed, Id: 9}} {
			put(func(x *impl.Ace) { x.Who, x.Id = kind.Who, kind.Id })
		}
	}
	for _, x := range []impl.Ace{allow(impl.WhEvery, 0, 0, 15), deny(impl.WhEvery, 0, 0, 15), allow(impl.WhOwner, 0, 0, 32), deny(impl.WhUser, 9, 0, 15), allow(impl.WhUser, 5, 0, 15), deny(impl.WhNamed, 9, 0, 15)} {
		for at := range len(l) + 1 {
			yield(slices.Insert(copyOfList(l), at, x))
		}
	}
}

// Promise 13: of each list that is one step away from such a one, it is known whether it is one itself.
func TestListsNearOnesOfNames(t *testing.T) {
	known := knownNames()
	ones, others := 0, 0
	check := func(l []impl.Ace) {
		a, is := known[nfsOwnText(l)]
		want := impl.AclOut{Acl: a}
		switch {
		case !impl.NfsRight(l):
			want = impl.AclOut{Code: impl.ErrForm}
		case !is:
			want = impl.AclOut{Code: impl.ErrNone}
		}
		if is {
			ones++
		} else {
			others++
		}
		wantAcl(t, "ToPosix of "+nfsOwnText(l), impl.ToPosix(l), want)
	}
	pick := 0
	for _, users := range someNames() {
		for _, groups := range someNames() {
			for _, group := range []int64{0, 5, 7} {
				pick++
				a := impl.Acl{User: []int64{0, 5, 7}[pick/3%3], Group: group, Other: int64(pick % 8), Users: users, Groups: groups, Masked: true, Mask: 7}
				l := ownToNfs(a, 0)
				check(l)
				if pick%7 == 0 {
					nearLists(l, check)
				}
			}
		}
	}
	if ones < 1000 || others < 10000 {
		t.Errorf("%d were such, and %d were not", ones, others)
	}
}

// Promise 13: too many are refused first, then what is not right, and nothing stands beside the code.
func TestListsInOrderThatAreNotRightAreNoNames(t *testing.T) {
	for _, l := range tooLongLists() {
		wantAcl(t, "too many", impl.ToPosix(l), impl.AclOut{Code: impl.ErrSize})
	}
	for _, l := range wrongLists() {
		wantAcl(t, "not right", impl.ToPosix(l), impl.AclOut{Code: impl.ErrForm})
	}
	for _, x := range wrongAces() {
		wantAcl(t, "a wrong one behind a right list", impl.ToPosix(append(ownToNfs(impl.AclOf(0o750), 0), x)), impl.AclOut{Code: impl.ErrForm})
	}
	for _, l := range rightLists() {
		wantAcl(t, "right, and of no names", impl.ToPosix(l), impl.AclOut{Code: impl.ErrNone})
	}
}

// Promise 14.
func TestDefaultListsGiveTheSameToNewFiles(t *testing.T) {
	for _, a := range crossedAcls() {
		born, l := impl.AclBorn(a, 0o777), impl.NfsBorn(impl.DefaultNfs(a), false)
		if born.Code != impl.OK || !impl.NfsRight(l) || len(l) == 0 {
			t.Fatalf("%s: nothing is handed on: %+v, %+v", aclOwnText(a), born, l)
		}
		wantList(t, "what a new file gets of "+aclOwnText(a), l, ownToNfs(born.Acl, 0))
		dir := impl.NfsBorn(impl.DefaultNfs(a), true)
		wantList(t, "what a new directory gets of "+aclOwnText(a), dir, ownToNfs(a, impl.FlFile|impl.FlDir))
		wantList(t, "what a new file in a new directory gets of "+aclOwnText(a), impl.NfsBorn(dir, false), l)
		for _, c := range crossedCreds() {
			for _, group := range []int64{2, 5} {
				one := ownCount(a, group, c) <= 1
				for want := range int64(8) {
					names, order := impl.AclMay(born.Acl, 1, group, c, want), impl.NfsMay(l, 1, group, c, impl.NfsBits(want))
					if (one || want == 1 || want == 2 || want == 4) && names != order {
						t.Errorf("%s, group %d, %+v, %d: a new file gives %v as a list of names, %v in order", aclOwnText(a), group, c, want, names, order)
					}
				}
			}
		}
	}
}

// Promise 14: of the directory itself a default list says nothing.
func TestDefaultListsDoNotHoldOfTheDirectory(t *testing.T) {
	for _, a := range crossedAcls() {
		l := impl.DefaultNfs(a)
		for _, c := range []impl.Cred{{Uid: 1, Gid: 2}, {Uid: 5, Gid: 5}, {Uid: 9, Gid: 3}} {
			if got := impl.NfsGives(l, 1, 2, c); got != 0 {
				t.Errorf("%s gives %+v %d of the directory", aclOwnText(a), c, got)
			}
		}
		if got := impl.NfsMode(l); got != 0 {
			t.Errorf("%s has the mode %o", aclOwnText(a), got)
		}
	}
}

func TestTheOneAsTheOtherSharesNothing(t *testing.T) {
	for _, base := range rightAcls() {
		a := base
		a.Users, a.Groups = roomy(base.Users), roomy(base.Groups)
		before, users, groups := copyOfAcl(a), slices.Clone(a.Users[:cap(a.Users)]), slices.Clone(a.Groups[:cap(a.Groups)])
		c := impl.Cred{Uid: 9, Gid: 3, Groups: []int64{2, 5}}
		one, two := impl.ToNfs(a), impl.DefaultNfs(a)
		impl.OneGroup(a, 2, c)
		if !sameAcl(a, before) || !slices.Equal(users, a.Users[:cap(a.Users)]) || !slices.Equal(groups, a.Groups[:cap(a.Groups)]) || !slices.Equal(c.Groups, []int64{2, 5}) {
			t.Fatalf("%+v is changed to %+v, or %+v", before, a, c)
		}
		scribbleAces(one)
		scribbleAces(two)
		wantList(t, "ToNfs again", impl.ToNfs(a), ownToNfs(base, 0))
		wantList(t, "DefaultNfs again", impl.DefaultNfs(a), ownToNfs(base, 11))

		l := append(make([]impl.Ace, 0, 80), ownToNfs(base, 0)...)
		room := copyOfList(l[:cap(l)])
		got, again := impl.ToPosix(l).Acl, impl.ToPosix(l).Acl
		if !slices.Equal(room, l[:cap(l)]) {
			t.Fatalf("ToPosix changed %+v to %+v", room, l)
		}
		scribbleAces(l)
		scribble(got.Users)
		if !slices.Equal(got.Groups, ownBack(base).Groups) || !sameAcl(again, ownBack(base)) {
			t.Fatalf("%s: two lists of answers share memory", aclOwnText(base))
		}
		scribble(again.Groups)
		if !slices.Equal(again.Users, ownBack(base).Users) {
			t.Fatalf("%s: two lists of an answer share memory", aclOwnText(base))
		}
	}
}

// A map stands behind the answer: it has to be the same whatever the order in which that is gone through.
func TestTheOneAsTheOtherIsTheSameEachTime(t *testing.T) {
	six := named(0, 1, 1, 2, 2, 3, 3, 4, 4, 5, 9999, 6)
	a := impl.Acl{User: 1, Group: 1, Other: 1, Users: six, Groups: six, Masked: true, Mask: 7}
	for range 200 {
		wantAcl(t, "six and six", impl.ToPosix(impl.ToNfs(a)), impl.AclOut{Acl: a})
	}
}

// Whatever it is given, each call answers: with numbers at the ends of int64, and lists of very many.
func TestTheOneAsTheOtherAlwaysAnswers(t *testing.T) {
	ends := []int64{math.MinInt64, math.MinInt64 + 1, -1, 0, 1, 5, 7, 8, 255, 256, 9999, 10000, math.MaxInt64 - 1, math.MaxInt64}
	for _, n := range ends {
		for _, m := range ends {
			for _, a := range []impl.Acl{{User: n, Group: m, Other: n, Mask: m, Masked: true, Users: named(n, m), Groups: named(m, n)}, {User: n, Group: m, Other: n}, {Group: n, Masked: true, Mask: m}, masked(named(n, 7), named(m, 7), 7)} {
				right := impl.AclRight(a)
				if one, two := impl.ToNfs(a), impl.DefaultNfs(a); right != (len(one) > 0) || right != (len(two) > 0) {
					t.Errorf("%+v: got %+v and %+v", a, one, two)
				}
				c := impl.Cred{Uid: m, Gid: n, Groups: []int64{m}}
				if got := impl.OneGroup(a, m, c); got && !(right && impl.CredRight(c)) {
					t.Errorf("OneGroup(%+v, %d, %+v): got %v", a, m, c, got)
				}
			}
			for _, l := range [][]impl.Ace{{allow(n, m, n, m)}, {deny(4, n, 3, m), allow(1, 0, m, n)}, {deny(5, n, 0, 15), allow(4, m, 0, 15)}} {
				want := impl.AclOut{Code: impl.ErrNone}
				if !impl.NfsRight(l) {
					want.Code = impl.ErrForm
				}
				wantAcl(t, "ToPosix", impl.ToPosix(l), want)
			}
		}
	}
}
