package tests

import (
	"math"
	"reflect"
	"slices"
	"testing"

	"loop.example/g00622/impl"
)

func allow(who int64, id int64, flags int64, mask int64) impl.Ace {
	return impl.Ace{Allow: true, Who: who, Id: id, Flags: flags, Mask: mask}
}

func deny(who int64, id int64, flags int64, mask int64) impl.Ace {
	return impl.Ace{Who: who, Id: id, Flags: flags, Mask: mask}
}

func copyOfList(l []impl.Ace) []impl.Ace {
	return append([]impl.Ace(nil), l...)
}

func wantList(t *testing.T, what string, got []impl.Ace, want []impl.Ace) {
	t.Helper()
	if !slices.Equal(got, want) {
		t.Errorf("%s: got %+v, want %+v", what, got, want)
	}
}

func wantNfs(t *testing.T, what string, got impl.NfsOut, want impl.NfsOut) {
	t.Helper()
	if got.Code != want.Code || !slices.Equal(got.List, want.List) {
		t.Errorf("%s: got %+v, want %+v", what, got, want)
	}
	if !impl.NfsRight(got.List) {
		t.Errorf("%s: %+v is not right", what, got.List)
	}
}

// The five kinds with an Id that each may have; those of 5 and 9 are of some of someCreds.
var kindsOfWho = []impl.Ace{{Who: impl.WhOwner}, {Who: impl.WhGroup}, {Who: impl.WhEvery}, {Who: impl.WhUser, Id: 5}, {Who: impl.WhUser, Id: 9}, {Who: impl.WhNamed, Id: 5}, {Who: impl.WhNamed}}

var rightFlags = []int64{0, 1, 2, 3, 5, 6, 7, 9, 10, 11, 13, 14, 15}

var someMasks = []int64{1, 2, 3, 5, 8, 10, 11, 15, 16, 32, 64, 100, 128, 170, 240, 255}

// lots is a list of so many Aces, told apart by their Ids.
func lots(count int) []impl.Ace {
	var out []impl.Ace
	for i := range count {
		out = append(out, impl.Ace{Allow: i%3 != 0, Who: impl.WhUser, Id: int64(i), Mask: int64(i%255 + 1)})
	}
	return out
}

// steps makes numbers that look mixed, the same ones at each run.
type steps uint64

func (s *steps) next(below int) int {
	*s = *s*6364136223846793005 + 1442695040888963407
	return int(uint64(*s) >> 33 % uint64(below))
}

func (s *steps) ace() impl.Ace {
	x := kindsOfWho[s.next(len(kindsOfWho))]
	x.Allow = s.next(2) == 0
	x.Mask = int64(s.next(255) + 1)
	if s.next(3) == 0 {
		x.Mask = someMasks[s.next(len(someMasks))]
	}
	if s.next(2) == 0 {
		x.Flags = rightFlags[s.next(len(rightFlags))]
	}
	return x
}

func (s *steps) list(count int) []impl.Ace {
	var out []impl.Ace
	for range count {
		out = append(out, s.ace())
	}
	return out
}

// rightLists are empty ones, each Ace alone, each pair of kinds as allow and deny, and mixed ones up to MaxAces.
func rightLists() [][]impl.Ace {
	out := [][]impl.Ace{nil, {}, lots(1), lots(impl.MaxAces)}
	for _, x := range kindsOfWho {
		for _, flags := range rightFlags {
			x.Flags, x.Mask = flags, 255
			for _, y := range kindsOfWho {
				one, two := x, y
				one.Allow, two.Mask = true, 77
				out = append(out, []impl.Ace{one, two}, []impl.Ace{two, one})
				one.Allow, two.Allow = false, true
				out = append(out, []impl.Ace{one, two}, []impl.Ace{two, one})
			}
		}
	}
	s := steps(7)
	for count := range impl.MaxAces + 1 {
		for range 12 {
			out = append(out, s.list(count))
		}
	}
	return out
}

func wrongAces() []impl.Ace {
	out := []impl.Ace{{}, {Allow: true}, deny(impl.WhOwner, 1, 0, 1), deny(impl.WhGroup, 1, 0, 1), deny(impl.WhEvery, 1, 0, 1), allow(impl.WhOwner, 9999, 0, 255)}
	for _, n := range []int64{-1, 0, 6, 7, 256, 257, math.MinInt64, math.MinInt64 + 1, math.MaxInt64} {
		out = append(out, allow(n, 0, 0, 1), deny(n, 5, 0, 1))
	}
	for _, n := range []int64{-1, 10000, 1<<32 + 5, math.MinInt64, math.MaxInt64} {
		for who := range int64(5) {
			out = append(out, allow(who+1, n, 0, 1))
		}
	}
	for _, n := range []int64{-1, -8, -15, 4, 8, 12, 16, 17, 31, 1<<32 + 1, math.MinInt64, math.MinInt64 + 1, math.MaxInt64} {
		out = append(out, allow(impl.WhEvery, 0, n, 1), deny(impl.WhUser, 5, n, 1))
	}
	for _, n := range []int64{-1, 0, 256, 257, 511, 1<<32 + 1, math.MinInt64, math.MinInt64 + 1, math.MaxInt64} {
		out = append(out, allow(impl.WhEvery, 0, 0, n), deny(impl.WhNamed, 5, 3, n))
	}
	return out
}

// wrongLists are not right; none of them has more than MaxList.
func wrongLists() [][]impl.Ace {
	out := [][]impl.Ace{lots(impl.MaxAces + 1), lots(impl.MaxList - 1), lots(impl.MaxList), make([]impl.Ace, impl.MaxList), append(lots(impl.MaxAces), impl.Ace{})}
	for _, x := range wrongAces() {
		out = append(out, []impl.Ace{x}, append([]impl.Ace{x}, lots(2)...), append(lots(2), x), append(lots(impl.MaxAces-1), x))
	}
	for i := range impl.MaxAces {
		l := lots(impl.MaxAces)
		l[i].Mask = 256
		out = append(out, l)
	}
	return out
}

func tooLongLists() [][]impl.Ace {
	return [][]impl.Ace{lots(impl.MaxList + 1), make([]impl.Ace, impl.MaxList+1), make([]impl.Ace, 300000)}
}

// Promise 7.
func TestAceRight(t *testing.T) {
	ends := []int64{math.MinInt64, math.MinInt64 + 1, -256, -16, -8, -1, 10000, 1 << 32, 1<<32 + 1, math.MaxInt64}
	whos := append([]int64{0, 1, 2, 3, 4, 5, 6, 7}, ends...)
	ids := append([]int64{0, 1, 9998, 9999}, ends...)
	flags := append([]int64{16, 17, 32}, ends...)
	for n := range int64(16) {
		flags = append(flags, n)
	}
	masks := append([]int64{0, 1, 2, 128, 254, 255, 256, 257}, ends...)
	for _, who := range whos {
		for _, id := range ids {
			for _, f := range flags {
				for _, m := range masks {
					want := who >= 1 && who <= 5 && (id == 0 || who >= 4 && id > 0 && id < 10000) && slices.Contains(rightFlags, f) && m > 0 && m < 256
					if impl.AceRight(allow(who, id, f, m)) != want || impl.AceRight(deny(who, id, f, m)) != want {
						t.Errorf("AceRight of who %d, id %d, flags %d, mask %d is not %v", who, id, f, m, want)
					}
				}
			}
		}
	}
	for _, x := range wrongAces() {
		if impl.AceRight(x) {
			t.Errorf("%+v is not right", x)
		}
	}
}

// Promise 7.
func TestNumbersOfAces(t *testing.T) {
	got := []int64{impl.NrRead, impl.NrWrite, impl.NrExec, impl.NrAppend, impl.NrDelete, impl.NrReadAcl, impl.NrWriteAcl, impl.NrTake, impl.WhOwner, impl.WhGroup, impl.WhEvery, impl.WhUser, impl.WhNamed,
		impl.FlFile, impl.FlDir, impl.FlOnce, impl.FlOnly, impl.MaxAces}
	if want := []int64{1, 2, 4, 8, 16, 32, 64, 128, 1, 2, 3, 4, 5, 1, 2, 4, 8, 32}; !slices.Equal(got, want) {
		t.Errorf("got %v, want %v", got, want)
	}
}

// Promise 7.
func TestNfsRight(t *testing.T) {
	for _, l := range rightLists() {
		if !impl.NfsRight(l) {
			t.Errorf("%+v is right", l)
		}
	}
	for i, l := range append(wrongLists(), tooLongLists()...) {
		if impl.NfsRight(l) {
			t.Errorf("list %d, of %d, is not right", i, len(l))
		}
	}
}

// ownIsOf tells anew, apart from the program, whether an Ace is of somebody.
func ownIsOf(x impl.Ace, owner int64, group int64, c impl.Cred) bool {
	in := func(gid int64) bool { return gid == c.Gid || slices.Contains(c.Groups, gid) }
	return x.Who == impl.WhEvery || x.Who == impl.WhOwner && c.Uid == owner || x.Who == impl.WhGroup && in(group) || x.Who == impl.WhUser && c.Uid == x.Id || x.Who == impl.WhNamed && in(x.Id)
}

// ownGives asks right by right for the first Ace that has it, apart from the program.
func ownGives(l []impl.Ace, isOf func(impl.Ace) bool) int64 {
	sum := int64(0)
	for right := int64(1); right < 256; right *= 2 {
		first := slices.IndexFunc(l, func(x impl.Ace) bool { return x.Flags < 8 && isOf(x) && x.Mask/right%2 == 1 })
		if first >= 0 && l[first].Allow {
			sum += right
		}
	}
	return sum
}

func ownGivesTo(l []impl.Ace, owner int64, group int64, c impl.Cred) int64 {
	return ownGives(l, func(x impl.Ace) bool { return ownIsOf(x, owner, group, c) })
}

// Promise 7.
func TestNfsGives(t *testing.T) {
	for _, l := range rightLists() {
		for _, c := range someCreds() {
			for _, group := range []int64{2, 5, 9999} {
				if got, want := impl.NfsGives(l, 1, group, c), ownGivesTo(l, 1, group, c); got != want {
					t.Errorf("NfsGives(%+v, 1, %d, %+v): got %d, want %d", l, group, c, got, want)
				}
			}
		}
	}
}

// Promise 7.
func TestNfsGivesByHand(t *testing.T) {
	const own, grp, all, usr, nmd = impl.WhOwner, impl.WhGroup, impl.WhEvery, impl.WhUser, impl.WhNamed
	owner, member, both, other := impl.Cred{Uid: 1, Gid: 3}, impl.Cred{Uid: 9, Gid: 3, Groups: []int64{2}}, impl.Cred{Uid: 1, Gid: 2}, impl.Cred{Uid: 9, Gid: 3}
	rows := []struct {
		what string
		l    []impl.Ace
		c    impl.Cred
		want int64
	}{
		{"nothing", nil, owner, 0},
		{"allow ahead of deny", []impl.Ace{allow(all, 0, 0, 3), deny(all, 0, 0, 6)}, other, 3},
		{"deny ahead of allow", []impl.Ace{deny(all, 0, 0, 6), allow(all, 0, 0, 3)}, other, 1},
		{"all eight", []impl.Ace{allow(all, 0, 0, 255)}, other, 255},
		{"a deny alone", []impl.Ace{deny(all, 0, 0, 255)}, other, 0},
		{"one that is handed on, and holds", []impl.Ace{allow(all, 0, 7, 255)}, other, 255},
		{"one that does not hold", []impl.Ace{allow(all, 0, 9, 255)}, other, 0},
		{"a deny that does not hold", []impl.Ace{deny(all, 0, 10, 255), allow(all, 0, 0, 4)}, other, 4},
		{"the owner", []impl.Ace{allow(own, 0, 0, 5)}, owner, 5},
		{"not the owner", []impl.Ace{allow(own, 0, 0, 5)}, member, 0},
		{"the group", []impl.Ace{allow(grp, 0, 0, 5)}, member, 5},
		{"not the group", []impl.Ace{allow(grp, 0, 0, 5)}, owner, 0},
		{"owner, and in the group", []impl.Ace{allow(own, 0, 0, 1), allow(grp, 0, 0, 2)}, both, 3},
		{"owner, and denied as the group", []impl.Ace{deny(grp, 0, 0, 1), allow(own, 0, 0, 3)}, both, 2},
		{"owner, and denied as the group too late", []impl.Ace{allow(own, 0, 0, 3), deny(grp, 0, 0, 1)}, both, 3},
		{"a user by number", []impl.Ace{allow(usr, 9, 0, 9)}, other, 9},
		{"a user who has another's group", []impl.Ace{allow(usr, 3, 0, 9)}, other, 0},
		{"a named group", []impl.Ace{allow(nmd, 2, 0, 9)}, member, 9},
		{"a named group by Gid", []impl.Ace{allow(nmd, 3, 0, 9)}, other, 9},
		{"a named group of one's Uid", []impl.Ace{allow(nmd, 9, 0, 9)}, other, 0},
		{"a deny to all behind", []impl.Ace{allow(usr, 9, 0, 9), deny(all, 0, 0, 255)}, other, 9},
		{"a deny to one ahead of all", []impl.Ace{deny(usr, 9, 0, 9), allow(all, 0, 0, 255)}, other, 246},
		{"root is asked like others", []impl.Ace{deny(usr, 9, 0, 9), allow(all, 0, 0, 15)}, impl.Cred{Uid: 9, Root: true}, 6},
	}
	for _, r := range rows {
		if got := impl.NfsGives(r.l, 1, 2, r.c); got != r.want {
			t.Errorf("%s: got %d, want %d", r.what, got, r.want)
		}
	}
	if impl.NfsGives([]impl.Ace{allow(own, 0, 0, 1), allow(grp, 0, 0, 2)}, 9999, 0, impl.Cred{Uid: 9999}) != 3 {
		t.Error("the ends of ids are right")
	}
}

// Promise 7.
func TestWhatIsGivenIsAllThatMayBeAsked(t *testing.T) {
	for i, l := range rightLists() {
		if i%9 != 0 {
			continue
		}
		for _, c := range someCreds() {
			gives := ownGivesTo(l, 1, 2, c)
			for want := range int64(256) {
				if got := impl.NfsMay(l, 1, 2, c, want); got != (gives|want == gives) {
					t.Errorf("NfsMay(%+v, 1, 2, %+v, %d): got %v, gives %d", l, c, want, got, gives)
				}
			}
			for _, want := range []int64{-1, -255, 256, 257, 511, 65535, 65536, 1 << 32, math.MinInt64, math.MinInt64 + 1, math.MaxInt64} {
				if impl.NfsMay(l, 1, 2, c, want) {
					t.Errorf("NfsMay(%+v, 1, 2, %+v, %d) of what nobody may", l, c, want)
				}
			}
		}
	}
	all := []impl.Ace{allow(impl.WhEvery, 0, 0, 255)}
	if !impl.NfsMay(all, 1, 2, impl.Cred{}, 255) || !impl.NfsMay(all, 1, 2, impl.Cred{}, 0) || !impl.NfsMay(nil, 1, 2, impl.Cred{}, 0) || impl.NfsMay(nil, 1, 2, impl.Cred{}, 1) {
		t.Error("everybody may all, or nothing")
	}
	if impl.NfsMay([]impl.Ace{allow(impl.WhEvery, 0, 0, 254)}, 1, 2, impl.Cred{}, 255) {
		t.Error("seven are not all eight")
	}
}

// Promise 7.
func TestNoMoreByADenyNoLessByAnAllow(t *testing.T) {
	s := steps(3)
	for range 600 {
		l, x := s.list(s.next(impl.MaxAces)), s.ace()
		x.Allow = true
		more := impl.AceAdd(l, int64(len(l)), x)
		x.Allow = false
		less := impl.AceAdd(l, int64(s.next(len(l)+1)), x)
		if more.Code != impl.OK || less.Code != impl.OK {
			t.Fatalf("%+v does not go into %+v", x, l)
		}
		for _, c := range someCreds() {
			was := impl.NfsGives(l, 1, 2, c)
			if got := impl.NfsGives(more.List, 1, 2, c); got&was != was {
				t.Errorf("an allow behind %+v takes from %+v: %d, not %d", l, c, got, was)
			}
			if got := impl.NfsGives(less.List, 1, 2, c); got|was != was {
				t.Errorf("the deny %+v in %+v gives %+v: %d, not %d", x, less.List, c, got, was)
			}
		}
	}
}

// Promise 7.
func TestAskedInOrderOfWhatIsNotRight(t *testing.T) {
	all := []impl.Ace{allow(impl.WhEvery, 0, 0, 255)}
	ask := func(what string, l []impl.Ace, owner int64, group int64, c impl.Cred) {
		t.Helper()
		if got := impl.NfsGives(l, owner, group, c); got != 0 {
			t.Errorf("%s: NfsGives: got %d", what, got)
		}
		// A want of 0 is the edge: 0 is also what is given where nothing is.
		for _, want := range []int64{0, 1, 128, 255, -1, 256} {
			if impl.NfsMay(l, owner, group, c, want) {
				t.Errorf("%s: NfsMay of a want of %d", what, want)
			}
		}
	}
	for _, wrong := range append(wrongLists(), tooLongLists()...) {
		ask("list", wrong, 1, 2, impl.Cred{Uid: 1, Gid: 2})
		if mode := impl.NfsMode(wrong); mode != 0 {
			t.Errorf("NfsMode of a list of %d that is not right: got %o", len(wrong), mode)
		}
	}
	for _, x := range wrongAces() {
		ask("a wrong one behind", append(copyOfList(all), x), 1, 2, impl.Cred{Uid: 1, Gid: 2})
		if mode := impl.NfsMode(append(copyOfList(all), x)); mode != 0 {
			t.Errorf("NfsMode with %+v behind: got %o", x, mode)
		}
	}
	for _, c := range wrongCreds() {
		ask("cred", all, 1, 2, c)
		ask("cred", all, c.Uid, c.Gid, c)
	}
	for _, n := range farNumbers {
		ask("owner", all, n, 2, impl.Cred{Uid: 1, Gid: 2})
		ask("group", all, 1, n, impl.Cred{Uid: 1, Gid: 2})
	}
}

// Promise 7.
func TestNfsBitsAndRwx(t *testing.T) {
	for bits, want := range []int64{0, 4, 10, 14, 1, 5, 11, 15} {
		if got := impl.NfsBits(int64(bits)); got != want {
			t.Errorf("NfsBits(%d): got %d, want %d", bits, got, want)
		}
		if got := impl.NfsRwx(want); got != int64(bits) {
			t.Errorf("NfsRwx(%d): got %d, want %d", want, got, bits)
		}
	}
	for mask := range int64(256) {
		want := int64(0)
		if mask%2 == 1 {
			want += 4
		}
		if mask/2%2 == 1 && mask/8%2 == 1 {
			want += 2
		}
		if mask/4%2 == 1 {
			want++
		}
		if got := impl.NfsRwx(mask); got != want {
			t.Errorf("NfsRwx(%d): got %d, want %d", mask, got, want)
		}
	}
	if impl.NfsRwx(impl.NrWrite) != 0 || impl.NfsRwx(impl.NrAppend) != 0 || impl.NfsRwx(247) != 5 || impl.NfsRwx(253) != 5 {
		t.Error("to write asks for both")
	}
	for _, n := range append([]int64{8, 9, 15}, farNumbers...) {
		if got := impl.NfsBits(n); got != 0 {
			t.Errorf("NfsBits(%d): got %d", n, got)
		}
	}
	for _, n := range append([]int64{256, 257, 511}, farNumbers...) {
		if got := impl.NfsRwx(n); got != 0 {
			t.Errorf("NfsRwx(%d): got %d", n, got)
		}
	}
}

// ownInsert puts an Ace in anew, apart from the program.
func ownInsert(l []impl.Ace, at int, x impl.Ace) []impl.Ace {
	var out []impl.Ace
	for i := range len(l) + 1 {
		if i == at {
			out = append(out, x)
		}
		if i < len(l) {
			out = append(out, l[i])
		}
	}
	return out
}

// Promise 7.
func TestAcesPutInAndTakenOut(t *testing.T) {
	x := allow(impl.WhNamed, 77, 3, 200)
	for _, l := range rightLists() {
		for at := range len(l) + 1 {
			got := impl.AceAdd(l, int64(at), x)
			if len(l) == impl.MaxAces {
				wantNfs(t, "AceAdd to a full list", got, impl.NfsOut{Code: impl.ErrFull})
				continue
			}
			wantNfs(t, "AceAdd", got, impl.NfsOut{List: ownInsert(l, at, x)})
			wantNfs(t, "AceDrop of what was put in", impl.AceDrop(got.List, int64(at)), impl.NfsOut{List: l})
		}
		for at := range len(l) {
			got := impl.AceDrop(l, int64(at))
			wantNfs(t, "AceDrop", got, impl.NfsOut{List: slices.Concat(l[:at], l[at+1:])})
			wantNfs(t, "AceAdd of what was taken out", impl.AceAdd(got.List, int64(at), l[at]), impl.NfsOut{List: l})
		}
	}
	var grown []impl.Ace
	for i := range impl.MaxAces {
		out := impl.AceAdd(grown, int64(i), lots(impl.MaxAces)[i])
		wantNfs(t, "one more", out, impl.NfsOut{List: lots(i + 1)})
		grown = out.List
	}
	wantNfs(t, "one too many", impl.AceAdd(grown, 0, x), impl.NfsOut{Code: impl.ErrFull})
	wantNfs(t, "the last one", impl.AceDrop([]impl.Ace{x}, 0), impl.NfsOut{})
}

// Each fault is named ahead of those behind it, so each stands here with all of these beside it.
func TestFaultsOfPuttingInAndTakingOut(t *testing.T) {
	x, wrong := allow(impl.WhEvery, 0, 0, 1), impl.Ace{}
	full := lots(impl.MaxAces)
	size, form, far := impl.NfsOut{Code: impl.ErrSize}, impl.NfsOut{Code: impl.ErrForm}, impl.NfsOut{Code: impl.ErrRange}
	for _, l := range tooLongLists() {
		wantNfs(t, "AceAdd to too many", impl.AceAdd(l, -1, wrong), size)
		wantNfs(t, "AceAdd to too many", impl.AceAdd(l, 0, x), size)
		wantNfs(t, "AceDrop of too many", impl.AceDrop(l, -1), size)
		wantNfs(t, "AceDrop of too many", impl.AceDrop(l, 0), size)
		wantNfs(t, "NfsChmod of too many", impl.NfsChmod(l, 0o644), size)
		wantNfs(t, "NfsChmod of too many", impl.NfsChmod(l, -1), size)
		if impl.NfsMay(l, 1, 2, impl.Cred{Uid: 1, Gid: 2}, 0) {
			t.Errorf("NfsMay of a list of %d", len(l))
		}
	}
	for _, l := range wrongLists() {
		for _, at := range []int64{-1, 0, 1, math.MaxInt64} {
			wantNfs(t, "AceAdd to a wrong list", impl.AceAdd(l, at, x), form)
			wantNfs(t, "AceDrop of a wrong list", impl.AceDrop(l, at), form)
		}
		wantNfs(t, "NfsChmod of a wrong list", impl.NfsChmod(l, 0o644), form)
		wantNfs(t, "NfsChmod of a wrong list", impl.NfsChmod(l, 4096), form)
	}
	for _, bad := range wrongAces() {
		wantNfs(t, "AceAdd of a wrong one", impl.AceAdd(nil, 0, bad), form)
		wantNfs(t, "AceAdd of a wrong one at no place", impl.AceAdd(lots(3), 4, bad), form)
		wantNfs(t, "AceAdd of a wrong one to a full list", impl.AceAdd(full, 0, bad), form)
		wantNfs(t, "AceAdd of a wrong one to a full list at no place", impl.AceAdd(full, -1, bad), form)
	}
	for _, count := range []int{0, 1, 2, 5, impl.MaxAces - 1, impl.MaxAces} {
		for _, at := range []int64{-1, -2, int64(count) + 1, int64(count) + 2, 1 << 32, math.MinInt64, math.MaxInt64} {
			wantNfs(t, "AceAdd at no place", impl.AceAdd(lots(count), at, x), far)
			wantNfs(t, "AceDrop at no place", impl.AceDrop(lots(count), at), far)
		}
		wantNfs(t, "AceDrop behind the last one", impl.AceDrop(lots(count), int64(count)), far)
	}
}

// ownTrim tells right by right whether an Ace ahead has said it, apart from the program.
func ownTrim(l []impl.Ace) []impl.Ace {
	var out []impl.Ace
	for i, x := range l {
		mask := int64(0)
		for right := int64(1); right < 256; right *= 2 {
			said := slices.ContainsFunc(l[:i], func(y impl.Ace) bool {
				return y.Flags < 8 && y.Mask/right%2 == 1 && (y.Who == impl.WhEvery || y.Who == x.Who && y.Id == x.Id)
			})
			if x.Mask/right%2 == 1 && (x.Flags > 0 || !said) {
				mask += right
			}
		}
		if mask > 0 {
			x.Mask = mask
			out = append(out, x)
		}
	}
	return out
}

// Promise 8.
func TestTrimmedListsGiveTheSame(t *testing.T) {
	lost := 0
	for _, l := range rightLists() {
		got := impl.NfsTrim(l)
		wantList(t, "NfsTrim", got, ownTrim(l))
		wantList(t, "NfsTrim once more", impl.NfsTrim(got), got)
		if !impl.NfsRight(got) {
			t.Errorf("%+v is not right", got)
		}
		lost += len(l) - len(got)
		for _, c := range someCreds() {
			if was, is := impl.NfsGives(l, 1, 2, c), impl.NfsGives(got, 1, 2, c); was != is {
				t.Errorf("%+v trimmed to %+v gives %+v %d, not %d", l, got, c, is, was)
			}
		}
		if impl.NfsMode(got) != impl.NfsMode(l) {
			t.Errorf("%+v trimmed has another mode", l)
		}
		wantList(t, "what a file gets of it", impl.NfsBorn(got, false), impl.NfsBorn(l, false))
		wantList(t, "what a directory gets of it", impl.NfsBorn(got, true), impl.NfsBorn(l, true))
	}
	if lost == 0 {
		t.Error("no list lost an Ace")
	}
}

// Promise 8.
func TestNfsTrimByHand(t *testing.T) {
	const own, grp, all, usr, nmd = impl.WhOwner, impl.WhGroup, impl.WhEvery, impl.WhUser, impl.WhNamed
	rows := []struct {
		what string
		l    []impl.Ace
		want []impl.Ace
	}{
		{"the same again", []impl.Ace{allow(usr, 5, 0, 7), allow(usr, 5, 0, 7)}, []impl.Ace{allow(usr, 5, 0, 7)}},
		{"a deny behind an allow", []impl.Ace{allow(usr, 5, 0, 7), deny(usr, 5, 0, 6)}, []impl.Ace{allow(usr, 5, 0, 7)}},
		{"some of it", []impl.Ace{allow(usr, 5, 0, 7), deny(usr, 5, 0, 14)}, []impl.Ace{allow(usr, 5, 0, 7), deny(usr, 5, 0, 8)}},
		{"another id", []impl.Ace{allow(usr, 5, 0, 7), deny(usr, 6, 0, 7)}, []impl.Ace{allow(usr, 5, 0, 7), deny(usr, 6, 0, 7)}},
		{"a group of the same id", []impl.Ace{allow(usr, 5, 0, 7), deny(nmd, 5, 0, 7)}, []impl.Ace{allow(usr, 5, 0, 7), deny(nmd, 5, 0, 7)}},
		{"owner and group", []impl.Ace{allow(own, 0, 0, 7), deny(grp, 0, 0, 7)}, []impl.Ace{allow(own, 0, 0, 7), deny(grp, 0, 0, 7)}},
		{"behind all", []impl.Ace{deny(all, 0, 0, 7), allow(own, 0, 0, 6), allow(grp, 0, 0, 12), allow(usr, 5, 0, 1), allow(nmd, 5, 0, 255), deny(all, 0, 0, 3)},
			[]impl.Ace{deny(all, 0, 0, 7), allow(grp, 0, 0, 8), allow(nmd, 5, 0, 248)}},
		{"ahead of all", []impl.Ace{allow(own, 0, 0, 6), deny(all, 0, 0, 7)}, []impl.Ace{allow(own, 0, 0, 6), deny(all, 0, 0, 7)}},
		{"by two together", []impl.Ace{allow(usr, 5, 0, 1), allow(all, 0, 0, 2), deny(usr, 5, 0, 3)}, []impl.Ace{allow(usr, 5, 0, 1), allow(all, 0, 0, 2)}},
		{"by one that goes itself", []impl.Ace{allow(all, 0, 0, 4), allow(usr, 5, 0, 4), deny(usr, 5, 0, 12)}, []impl.Ace{allow(all, 0, 0, 4), deny(usr, 5, 0, 8)}},
		{"behind one that does not hold", []impl.Ace{allow(usr, 5, 9, 7), deny(usr, 5, 0, 7)}, []impl.Ace{allow(usr, 5, 9, 7), deny(usr, 5, 0, 7)}},
		{"behind one of all that does not hold", []impl.Ace{allow(all, 0, 10, 7), deny(usr, 5, 0, 7)}, []impl.Ace{allow(all, 0, 10, 7), deny(usr, 5, 0, 7)}},
		{"behind one that holds and is handed on", []impl.Ace{allow(usr, 5, 7, 3), deny(usr, 5, 0, 7)}, []impl.Ace{allow(usr, 5, 7, 3), deny(usr, 5, 0, 4)}},
		{"those that are handed on stay", []impl.Ace{allow(all, 0, 0, 255), deny(usr, 5, 1, 1), deny(usr, 5, 2, 1), deny(all, 0, 3, 1), deny(own, 0, 9, 1), deny(own, 0, 5, 1), deny(own, 0, 14, 1)},
			[]impl.Ace{allow(all, 0, 0, 255), deny(usr, 5, 1, 1), deny(usr, 5, 2, 1), deny(all, 0, 3, 1), deny(own, 0, 9, 1), deny(own, 0, 5, 1), deny(own, 0, 14, 1)}},
		{"none", nil, nil},
	}
	for _, r := range rows {
		wantList(t, r.what, impl.NfsTrim(r.l), r.want)
	}
	for _, l := range append(wrongLists(), tooLongLists()...) {
		if got := impl.NfsTrim(l); len(got) != 0 {
			t.Errorf("NfsTrim of a list of %d that is not right: got %+v", len(l), got)
		}
	}
}

// ownMode asks for each of the three apart from the program.
func ownMode(l []impl.Ace) int64 {
	mode := int64(0)
	for _, whos := range [][]int64{{impl.WhOwner, impl.WhEvery}, {impl.WhGroup, impl.WhEvery}, {impl.WhEvery}} {
		mask := ownGives(l, func(x impl.Ace) bool { return slices.Contains(whos, x.Who) })
		mode = 8*mode + mask%2*4 + mask/2%2*(mask/8%2)*2 + mask/4%2
	}
	return mode
}

// Promise 9.
func TestNfsMode(t *testing.T) {
	for _, l := range rightLists() {
		if got, want := impl.NfsMode(l), ownMode(l); got != want {
			t.Errorf("NfsMode(%+v): got %o, want %o", l, got, want)
		}
	}
	const own, grp, all, usr, nmd = impl.WhOwner, impl.WhGroup, impl.WhEvery, impl.WhUser, impl.WhNamed
	rows := []struct {
		l    []impl.Ace
		want int64
	}{
		{nil, 0}, {[]impl.Ace{allow(own, 0, 0, 255)}, 0o700}, {[]impl.Ace{allow(grp, 0, 0, 255)}, 0o070}, {[]impl.Ace{allow(all, 0, 0, 255)}, 0o777},
		{[]impl.Ace{allow(usr, 5, 0, 255), allow(nmd, 5, 0, 255)}, 0}, {[]impl.Ace{deny(usr, 5, 0, 255), deny(nmd, 0, 0, 255), allow(all, 0, 0, 15)}, 0o777},
		{[]impl.Ace{deny(own, 0, 0, 2), allow(all, 0, 0, 15)}, 0o577}, {[]impl.Ace{deny(grp, 0, 0, 8), allow(all, 0, 0, 15)}, 0o757}, {[]impl.Ace{allow(all, 0, 0, 15), deny(own, 0, 0, 2)}, 0o777},
		{[]impl.Ace{deny(all, 0, 0, 1), allow(own, 0, 0, 15), allow(grp, 0, 0, 5)}, 0o310}, {[]impl.Ace{allow(own, 0, 0, 2), allow(all, 0, 0, 8)}, 0o200},
		{[]impl.Ace{allow(all, 0, 11, 255)}, 0}, {[]impl.Ace{allow(all, 0, 3, 5)}, 0o555}, {[]impl.Ace{deny(own, 0, 9, 255), allow(all, 0, 0, 240)}, 0},
	}
	for _, r := range rows {
		if got := impl.NfsMode(r.l); got != r.want {
			t.Errorf("NfsMode(%+v): got %o, want %o", r.l, got, r.want)
		}
	}
}

// ownChmod makes the list anew, apart from the program, one Ace behind the other.
func ownChmod(l []impl.Ace, mode int64) impl.NfsOut {
	var out []impl.Ace
	put := func(is bool, who int64, id int64, flags int64, mask int64) {
		if mask > 0 {
			out = append(out, impl.Ace{Allow: is, Who: who, Id: id, Flags: flags, Mask: mask})
		}
	}
	masks := []int64{0, 4, 10, 14, 1, 5, 11, 15}
	u, g, o := mode/64%8, mode/8%8, mode%8
	for _, x := range l {
		if x.Flags%4 > 0 {
			put(x.Allow, x.Who, x.Id, x.Flags%8+8, x.Mask)
		}
	}
	put(true, impl.WhOwner, 0, 0, masks[u]+32+64)
	put(false, impl.WhOwner, 0, 0, masks[7-u])
	for _, x := range l {
		if x.Who >= impl.WhUser && x.Flags < 8 {
			mask := x.Mask
			if x.Allow {
				mask = x.Mask&masks[g] + x.Mask/16*16
			}
			put(x.Allow, x.Who, x.Id, 0, mask)
		}
	}
	put(true, impl.WhGroup, 0, 0, masks[g])
	put(false, impl.WhGroup, 0, 0, masks[7-g])
	put(true, impl.WhEvery, 0, 0, masks[o]+32)
	if len(out) > impl.MaxAces {
		return impl.NfsOut{Code: impl.ErrFull}
	}
	return impl.NfsOut{List: out}
}

// namedLists have Aces of who is named, allows and denies, handed on and not.
func namedLists() [][]impl.Ace {
	const own, grp, all, usr, nmd = impl.WhOwner, impl.WhGroup, impl.WhEvery, impl.WhUser, impl.WhNamed
	out := [][]impl.Ace{nil, {allow(usr, 5, 0, 255)}, {deny(usr, 5, 0, 255)}, {allow(nmd, 5, 3, 15), deny(nmd, 0, 9, 7)},
		{allow(all, 0, 0, 255), deny(nmd, 5, 0, 4), allow(usr, 9, 6, 11), allow(nmd, 0, 0, 170), deny(grp, 0, 2, 1), allow(own, 0, 1, 2), allow(usr, 9, 14, 255), deny(usr, 3, 5, 9)}}
	s := steps(11)
	for range 4 {
		out = append(out, s.list(8))
	}
	return out
}

// Promise 9.
func TestListsSetToEachMode(t *testing.T) {
	for _, l := range namedLists() {
		for mode := range int64(4096) {
			got := impl.NfsChmod(l, mode)
			wantNfs(t, "NfsChmod", got, ownChmod(l, mode))
			if got.Code == impl.OK && impl.NfsMode(got.List) != mode%512 {
				t.Errorf("%+v set to %o has mode %o", l, mode, impl.NfsMode(got.List))
			}
		}
	}
	full := 0
	for _, l := range rightLists() {
		for _, mode := range []int64{0, 0o70, 0o124, 0o421, 0o640, 0o777, 0o7000, 4095} {
			got := impl.NfsChmod(l, mode)
			wantNfs(t, "NfsChmod", got, ownChmod(l, mode))
			if got.Code == impl.ErrFull {
				full++
			} else if impl.NfsMode(got.List) != mode%512 {
				t.Errorf("%+v set to %o has mode %o", l, mode, impl.NfsMode(got.List))
			}
		}
	}
	if full == 0 {
		t.Error("no list became full")
	}
}

// Promise 9.
func TestNobodyNamedMayMoreThanTheGroup(t *testing.T) {
	for _, l := range append(namedLists(), rightLists()[4:120]...) {
		for mode := int64(0); mode < 512; mode += 3 {
			set := impl.NfsChmod(l, mode)
			most := impl.NfsBits(mode/8%8) | impl.NfsBits(mode%8)
			for _, c := range someCreds() {
				if got := impl.NfsGives(set.List, 1, 2, c); c.Uid != 1 && got&15&^most != 0 {
					t.Errorf("%+v set to %o gives %+v %d", l, mode, c, got)
				}
			}
			owner := impl.Cred{Uid: 1, Gid: 5, Groups: []int64{0, 2}}
			if got := impl.NfsGives(set.List, 1, 2, owner); set.Code == impl.OK && got&15 != impl.NfsBits(mode/64) {
				t.Errorf("%+v set to %o gives its owner %d", l, mode, got)
			}
		}
	}
}

// Promise 9.
func TestNfsChmodByHand(t *testing.T) {
	const own, grp, all, usr, nmd = impl.WhOwner, impl.WhGroup, impl.WhEvery, impl.WhUser, impl.WhNamed
	wantNfs(t, "none at 0", impl.NfsChmod(nil, 0), impl.NfsOut{List: []impl.Ace{allow(own, 0, 0, 96), deny(own, 0, 0, 15), deny(grp, 0, 0, 15), allow(all, 0, 0, 32)}})
	wantNfs(t, "none at 777", impl.NfsChmod(nil, 0o777), impl.NfsOut{List: []impl.Ace{allow(own, 0, 0, 111), allow(grp, 0, 0, 15), allow(all, 0, 0, 47)}})
	l := []impl.Ace{allow(usr, 5, 0, 15), deny(usr, 6, 3, 15), allow(nmd, 7, 9, 255), allow(usr, 8, 0, 14), allow(all, 0, 2, 255), allow(own, 0, 0, 255), allow(nmd, 9, 5, 255)}
	wantNfs(t, "named at 640", impl.NfsChmod(l, 0o7640), impl.NfsOut{List: []impl.Ace{deny(usr, 6, 11, 15), allow(nmd, 7, 9, 255), allow(all, 0, 10, 255), allow(nmd, 9, 13, 255),
		allow(own, 0, 0, 107), deny(own, 0, 0, 4), allow(usr, 5, 0, 1), deny(usr, 6, 0, 15), allow(nmd, 9, 0, 241), allow(grp, 0, 0, 1), deny(grp, 0, 0, 14), allow(all, 0, 0, 32)}})

	for count := 20; count <= impl.MaxAces; count++ {
		got, more := impl.NfsChmod(lots(count), 0o660), impl.NfsChmod(lots(count), 0o670)
		wantNfs(t, "many at 660", got, ownChmod(lots(count), 0o660))
		wantNfs(t, "many at 670", more, ownChmod(lots(count), 0o670))
	}
	var denies []impl.Ace
	for i := range int64(impl.MaxAces) {
		denies = append(denies, deny(usr, i, 0, 1))
	}
	wantNfs(t, "as many as may be", impl.NfsChmod(denies[:29], 0o777), ownChmod(denies[:29], 0o777))
	if got := impl.NfsChmod(denies[:29], 0o777); len(got.List) != impl.MaxAces || got.Code != impl.OK {
		t.Errorf("29 and three: got %d, code %d", len(got.List), got.Code)
	}
	wantNfs(t, "one too many", impl.NfsChmod(denies[:30], 0o777), impl.NfsOut{Code: impl.ErrFull})
	wantNfs(t, "one too many by a deny of the owner", impl.NfsChmod(denies[:29], 0o677), impl.NfsOut{Code: impl.ErrFull})
	var gone []impl.Ace
	for i := range int64(impl.MaxAces) {
		gone = append(gone, allow(usr, i, 0, 15))
	}
	wantNfs(t, "what has no mask left does not count", impl.NfsChmod(gone, 0o707), impl.NfsOut{List: []impl.Ace{allow(own, 0, 0, 111), deny(grp, 0, 0, 15), allow(all, 0, 0, 47)}})
}

// Promise 9.
func TestNfsChmodOfNoMode(t *testing.T) {
	for _, n := range append([]int64{4096, 4097, 8191}, farNumbers...) {
		wantNfs(t, "no mode", impl.NfsChmod(nil, n), impl.NfsOut{Code: impl.ErrForm})
		wantNfs(t, "no mode of a full list", impl.NfsChmod(lots(impl.MaxAces), n), impl.NfsOut{Code: impl.ErrForm})
	}
}

// Promise 10.
func TestNfsBornOfEachFlags(t *testing.T) {
	file := map[int64]int64{1: 0, 3: 0, 5: 0, 7: 0, 9: 0, 11: 0, 13: 0, 15: 0}
	dir := map[int64]int64{1: 9, 2: 2, 3: 3, 6: 0, 7: 0, 9: 9, 10: 2, 11: 3, 14: 0, 15: 0}
	for _, flags := range rightFlags {
		for _, x := range kindsOfWho {
			for _, is := range []bool{true, false} {
				x.Allow, x.Flags, x.Mask = is, flags, 129
				for asDir, table := range map[bool]map[int64]int64{false: file, true: dir} {
					var want []impl.Ace
					if got, there := table[flags]; there {
						born := x
						born.Flags = got
						want = append(want, born)
					}
					wantList(t, "NfsBorn", impl.NfsBorn([]impl.Ace{x}, asDir), want)
				}
			}
		}
	}
	for _, l := range append(wrongLists(), tooLongLists()...) {
		if a, b := impl.NfsBorn(l, false), impl.NfsBorn(l, true); len(a)+len(b) != 0 {
			t.Errorf("NfsBorn of a list of %d that is not right: got %+v and %+v", len(l), a, b)
		}
	}
	for _, dir := range []bool{false, true} {
		if got := impl.NfsBorn([]impl.Ace{allow(impl.WhEvery, 0, 3, 1), {}}, dir); len(got) != 0 {
			t.Errorf("NfsBorn with a wrong one behind: got %+v", got)
		}
	}
}

// Promise 10.
func TestWhatIsHandedOn(t *testing.T) {
	for _, l := range rightLists() {
		file, dir := impl.NfsBorn(l, false), impl.NfsBorn(l, true)
		if !impl.NfsRight(file) || !impl.NfsRight(dir) {
			t.Errorf("%+v: %+v or %+v is not right", l, file, dir)
		}
		var gets, lasting []impl.Ace
		for _, x := range l {
			if x.Flags%2 == 1 {
				once := x.Flags/4%2 == 1
				x.Flags = 0
				gets = append(gets, x)
				if !once {
					lasting = append(lasting, x)
				}
			}
		}
		wantList(t, "what a file gets, in order", file, gets)
		wantList(t, "what a file in a new directory gets", impl.NfsBorn(dir, false), lasting)
		wantList(t, "what a file further down gets", impl.NfsBorn(impl.NfsBorn(dir, true), false), lasting)
		for _, x := range dir {
			if x.Flags/4%2 == 1 {
				t.Errorf("%+v hands on what was once: %+v", l, dir)
			}
		}
	}
	l := []impl.Ace{deny(impl.WhUser, 5, 1, 1), allow(impl.WhEvery, 0, 2, 2), allow(impl.WhGroup, 0, 0, 4), deny(impl.WhNamed, 7, 7, 8), allow(impl.WhOwner, 0, 11, 16), allow(impl.WhOwner, 0, 5, 32)}
	wantList(t, "file", impl.NfsBorn(l, false), []impl.Ace{deny(impl.WhUser, 5, 0, 1), deny(impl.WhNamed, 7, 0, 8), allow(impl.WhOwner, 0, 0, 16), allow(impl.WhOwner, 0, 0, 32)})
	wantList(t, "directory", impl.NfsBorn(l, true), []impl.Ace{deny(impl.WhUser, 5, 9, 1), allow(impl.WhEvery, 0, 2, 2), deny(impl.WhNamed, 7, 0, 8), allow(impl.WhOwner, 0, 3, 16)})
}

// nfsCalls are all calls that hand back a list.
func nfsCalls() map[string]func([]impl.Ace) []impl.Ace {
	x := allow(impl.WhEvery, 0, 0, 3)
	return map[string]func([]impl.Ace) []impl.Ace{
		"born file":  func(l []impl.Ace) []impl.Ace { return impl.NfsBorn(l, false) },
		"born dir":   func(l []impl.Ace) []impl.Ace { return impl.NfsBorn(l, true) },
		"trim":       impl.NfsTrim,
		"chmod":      func(l []impl.Ace) []impl.Ace { return impl.NfsChmod(l, 0o640).List },
		"add first":  func(l []impl.Ace) []impl.Ace { return impl.AceAdd(l, 0, x).List },
		"add inside": func(l []impl.Ace) []impl.Ace { return impl.AceAdd(l, int64(len(l)/2), x).List },
		"add last":   func(l []impl.Ace) []impl.Ace { return impl.AceAdd(l, int64(len(l)), x).List },
		"drop first": func(l []impl.Ace) []impl.Ace { return impl.AceDrop(l, 0).List },
		"drop last":  func(l []impl.Ace) []impl.Ace { return impl.AceDrop(l, int64(len(l))-1).List },
	}
}

func scribbleAces(l []impl.Ace) {
	l = l[:cap(l)]
	for i := range l {
		l[i] = impl.Ace{Allow: true, Who: 99, Id: 99, Flags: 99, Mask: 99}
	}
}

func TestListsInOrderShareNothing(t *testing.T) {
	for _, base := range rightLists() {
		for what, call := range nfsCalls() {
			room := append(append(make([]impl.Ace, 0, 80), base...), lots(3)...)
			before, l := copyOfList(room[:cap(room)]), room[:len(base)]
			got := call(l)
			if !slices.Equal(before, room[:cap(room)]) {
				t.Fatalf("%s changed %+v to %+v", what, before, room)
			}
			answer := copyOfList(got)
			scribbleAces(room)
			if !slices.Equal(answer, got) {
				t.Fatalf("%s of %+v shares memory with what was handed in", what, base)
			}
			copy(room[:cap(room)], before)
			scribbleAces(got)
			if !slices.Equal(before, room[:cap(room)]) {
				t.Fatalf("%s of %+v hands out memory of what was handed in", what, base)
			}
			wantList(t, what+" again", call(copyOfList(base)), answer)
		}
	}
}

func TestAskingInOrderChangesNothing(t *testing.T) {
	for _, l := range rightLists() {
		before := copyOfList(l)
		c := impl.Cred{Uid: 9, Gid: 3, Groups: []int64{2, 5}}
		impl.NfsRight(l)
		impl.NfsGives(l, 1, 2, c)
		impl.NfsMay(l, 1, 2, c, 7)
		impl.NfsMode(l)
		if !slices.Equal(l, before) || !reflect.DeepEqual(c, impl.Cred{Uid: 9, Gid: 3, Groups: []int64{2, 5}}) {
			t.Errorf("%+v is changed to %+v, or %+v", before, l, c)
		}
	}
}

// Whatever it is given, each call answers: with all fields at the ends of int64, one by one and together.
func TestListsInOrderAlwaysAnswer(t *testing.T) {
	ends := []int64{math.MinInt64, math.MinInt64 + 1, -1, 0, 1, 5, 255, 256, math.MaxInt64 - 1, math.MaxInt64}
	var lists [][]impl.Ace
	for _, n := range ends {
		for _, m := range ends {
			lists = append(lists, []impl.Ace{allow(n, m, n, m)}, []impl.Ace{deny(4, n, 3, m), allow(1, 0, m, n)})
		}
	}
	lists = append(append(lists, nil, []impl.Ace{}), tooLongLists()...)
	for _, l := range lists {
		for _, n := range ends {
			c := impl.Cred{Uid: n, Gid: n, Groups: []int64{n}}
			impl.NfsGives(l, n, n, c)
			impl.NfsMay(l, n, n, c, n)
			impl.NfsMode(l)
			impl.NfsTrim(l)
			for _, out := range []impl.NfsOut{impl.NfsChmod(l, n), impl.AceAdd(l, n, allow(n, n, n, n)), impl.AceAdd(l, n, allow(3, 0, 0, 1)), impl.AceDrop(l, n)} {
				if out.Code != impl.OK && len(out.List) != 0 {
					t.Errorf("a list beside the code %d: %+v", out.Code, out.List)
				}
			}
		}
	}
}
