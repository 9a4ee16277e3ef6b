package tests

import (
	"math"
	"reflect"
	"slices"
	"testing"

	"loop.example/g00622/impl"
)

// farNumbers are neither ids, nor bits, nor modes.
var farNumbers = []int64{-1, 10000, 65536, math.MinInt64, math.MinInt64 + 1, math.MaxInt64}

func named(pairs ...int64) []impl.Named {
	var out []impl.Named
	for i := 0; i+1 < len(pairs); i += 2 {
		out = append(out, impl.Named{Id: pairs[i], Bits: pairs[i+1]})
	}
	return out
}

// sixNamed are as many as there may be, with ids at both ends.
func sixNamed() []impl.Named {
	return named(0, 1, 4, 2, 5, 4, 6, 7, 100, 0, 9999, 5)
}

func masked(users []impl.Named, groups []impl.Named, mask int64) impl.Acl {
	return impl.Acl{User: 6, Group: 4, Other: 1, Users: users, Groups: groups, Masked: true, Mask: mask}
}

// copyOfAcl has memory of its own, and no list where there is an empty one.
func copyOfAcl(a impl.Acl) impl.Acl {
	a.Users = append([]impl.Named(nil), a.Users...)
	a.Groups = append([]impl.Named(nil), a.Groups...)
	return a
}

func sameAcl(a impl.Acl, b impl.Acl) bool {
	return reflect.DeepEqual(copyOfAcl(a), copyOfAcl(b))
}

func wantAcl(t *testing.T, what string, got impl.AclOut, want impl.AclOut) {
	t.Helper()
	if got.Code != want.Code || !sameAcl(got.Acl, want.Acl) {
		t.Errorf("%s: got %+v, want %+v", what, got, want)
	}
	if got.Code == impl.OK && !impl.AclRight(got.Acl) {
		t.Errorf("%s: %+v is not right", what, got.Acl)
	}
}

func rightAcls() []impl.Acl {
	out := []impl.Acl{{}, {User: 7, Group: 7, Other: 7}, {User: 1, Group: 2, Other: 4}, {Masked: true}, {Masked: true, Mask: 7}, {Group: 5, Masked: true, Mask: 2},
		{Users: []impl.Named{}, Groups: []impl.Named{}}}
	lists := [][]impl.Named{nil, named(0, 0), named(9999, 7), named(5, 6), named(5, 6, 7, 1), named(2, 1, 5, 2, 8, 4), sixNamed()}
	for _, users := range lists {
		for _, groups := range lists {
			for _, mask := range []int64{0, 2, 5, 7} {
				out = append(out, copyOfAcl(masked(users, groups, mask)))
			}
		}
	}
	return out
}

func wrongAcls() []impl.Acl {
	seven := append(named(1, 1), named(2, 1, 3, 1, 4, 1, 5, 1, 6, 1, 7, 1)...)
	lists := [][]impl.Named{seven, named(5, 1, 5, 2), named(5, 1, 5, 1), named(6, 1, 5, 1), named(1, 1, 3, 1, 2, 1), named(1, 1, 2, 1, 2, 1), named(0, 8), named(0, -1),
		named(-1, 0), named(10000, 0), named(1, 1, 10000, 1), named(-1, 1, 1, 1), named(1, 1, 2, 8), make([]impl.Named, impl.MaxList+1), make([]impl.Named, 100000)}
	out := []impl.Acl{{Mask: 1}, {Mask: 7}, {Mask: 8}, {User: 7, Group: 7, Other: 7, Mask: 7}, {Users: named(5, 0)}, {Groups: named(5, 0)}, {Users: named(1, 7), Groups: named(1, 7)}}
	for _, list := range lists {
		out = append(out, masked(list, nil, 7), masked(nil, list, 7), masked(sixNamed(), list, 7), masked(list, sixNamed(), 7), impl.Acl{Users: list}, impl.Acl{Groups: list})
	}
	for _, n := range append([]int64{8, 9, 15}, farNumbers...) {
		out = append(out, impl.Acl{User: n}, impl.Acl{Group: n}, impl.Acl{Other: n}, impl.Acl{Mask: n}, impl.Acl{Masked: true, Mask: n}, impl.Acl{User: n, Masked: true},
			masked(named(5, n), nil, 7), masked(nil, named(5, n), 7))
	}
	for _, n := range farNumbers {
		out = append(out, masked(named(n, 7), nil, 7), masked(nil, named(n, 7), 7))
	}
	return out
}

// Promise 5.
func TestAclRight(t *testing.T) {
	for _, a := range rightAcls() {
		if !impl.AclRight(a) {
			t.Errorf("%+v is right", a)
		}
		if got, want := impl.Bare(a), !a.Masked; got != want {
			t.Errorf("Bare(%+v): got %v", a, got)
		}
	}
	for i, a := range wrongAcls() {
		if impl.AclRight(a) || impl.Bare(a) {
			t.Errorf("list %d of %d and %d named is not right", i, len(a.Users), len(a.Groups))
		}
	}
	if impl.MaxNamed != 6 {
		t.Error("six may be named, of each kind")
	}
}

// Promise 5.
func TestAclOfEachMode(t *testing.T) {
	for mode := range int64(4096) {
		a := impl.AclOf(mode)
		if want := (impl.Acl{User: mode / 64 % 8, Group: mode / 8 % 8, Other: mode % 8}); !sameAcl(a, want) {
			t.Errorf("AclOf(%o): got %+v", mode, a)
		}
		if got := impl.ModeOf(a); got != mode%512 {
			t.Errorf("ModeOf(AclOf(%o)): got %o", mode, got)
		}
		if !impl.AclRight(a) || !impl.Bare(a) {
			t.Errorf("AclOf(%o) is right and bare", mode)
		}
	}
	for _, n := range append([]int64{4096, 4097, 8191}, farNumbers...) {
		if got := impl.AclOf(n); !sameAcl(got, impl.Acl{}) {
			t.Errorf("AclOf(%d): got %+v", n, got)
		}
	}
}

// ownGroupClass tells anew, apart from the program, which bits stand in the middle of a mode.
func ownGroupClass(a impl.Acl) int64 {
	if a.Masked {
		return a.Mask
	}
	return a.Group
}

func ownMask(a impl.Acl) int64 {
	bits := a.Group
	for _, n := range a.Users {
		bits |= n.Bits
	}
	for _, n := range a.Groups {
		bits |= n.Bits
	}
	return bits
}

// Promise 5.
func TestModeOfAndMaskOf(t *testing.T) {
	for _, a := range rightAcls() {
		if got, want := impl.ModeOf(a), 64*a.User+8*ownGroupClass(a)+a.Other; got != want {
			t.Errorf("ModeOf(%+v): got %o, want %o", a, got, want)
		}
		if got := impl.MaskOf(a); got != ownMask(a) {
			t.Errorf("MaskOf(%+v): got %d", a, got)
		}
	}
	for _, a := range wrongAcls() {
		if impl.ModeOf(a) != 0 || impl.MaskOf(a) != 0 {
			t.Errorf("of a list of %d and %d named that is not right: got %d and %d", len(a.Users), len(a.Groups), impl.ModeOf(a), impl.MaskOf(a))
		}
	}
	if a := (impl.Acl{User: 7, Group: 2, Other: 7, Masked: true, Mask: 5}); impl.MaskOf(a) != 2 || impl.ModeOf(a) != 0o757 {
		t.Errorf("neither User nor Other nor Mask is asked for a new mask: got %d and %o", impl.MaskOf(a), impl.ModeOf(a))
	}
}

// Promise 5.
func TestAclChmodAndBorn(t *testing.T) {
	for _, a := range rightAcls() {
		for _, mode := range []int64{0, 1, 8, 64, 0o124, 0o421, 0o640, 0o777, 0o7000, 0o7421, 4095} {
			u, g, o := mode/64%8, mode/8%8, mode%8
			want := copyOfAcl(a)
			want.User, want.Other = u, o
			born := copyOfAcl(a)
			born.User, born.Other = a.User&u, a.Other&o
			if a.Masked {
				want.Mask, born.Mask = g, a.Mask&g
			} else {
				want.Group, born.Group = g, a.Group&g
			}
			wantAcl(t, "AclChmod", impl.AclChmod(a, mode), impl.AclOut{Acl: want})
			wantAcl(t, "AclBorn", impl.AclBorn(a, mode), impl.AclOut{Acl: born})
			if got := impl.ModeOf(impl.AclChmod(a, mode).Acl); got != mode%512 {
				t.Errorf("%+v set to %o has mode %o", a, mode, got)
			}
			if got, want := impl.ModeOf(impl.AclBorn(a, mode).Acl), impl.ModeOf(a)&mode; got != want {
				t.Errorf("%+v born with %o has mode %o, not %o", a, mode, got, want)
			}
		}
	}
}

// side is one of the two, users and groups, that are put in and taken out alike.
type side struct {
	name string
	put  func(impl.Acl, int64, int64) impl.AclOut
	drop func(impl.Acl, int64) impl.AclOut
	list func(*impl.Acl) *[]impl.Named
}

func sides() []side {
	return []side{
		{"user", impl.PutUser, impl.DropUser, func(a *impl.Acl) *[]impl.Named { return &a.Users }},
		{"group", impl.PutGroup, impl.DropGroup, func(a *impl.Acl) *[]impl.Named { return &a.Groups }},
	}
}

// ownPut puts in anew, apart from the program: by taking out, putting behind, and sorting.
func ownPut(a impl.Acl, s side, n impl.Named) impl.AclOut {
	out := copyOfAcl(a)
	list := s.list(&out)
	*list = slices.DeleteFunc(*list, func(x impl.Named) bool { return x.Id == n.Id })
	if len(*list) == impl.MaxNamed {
		return impl.AclOut{Code: impl.ErrFull}
	}
	*list = append(*list, n)
	slices.SortFunc(*list, func(x impl.Named, y impl.Named) int { return int(x.Id - y.Id) })
	out.Masked, out.Mask = true, ownMask(out)
	return impl.AclOut{Acl: out}
}

func ownDrop(a impl.Acl, s side, id int64) impl.AclOut {
	out := copyOfAcl(a)
	list := s.list(&out)
	count := len(*list)
	*list = slices.DeleteFunc(*list, func(x impl.Named) bool { return x.Id == id })
	if len(*list) == count {
		return impl.AclOut{Code: impl.ErrNone}
	}
	out.Masked, out.Mask = false, 0
	if len(out.Users)+len(out.Groups) > 0 {
		out.Masked, out.Mask = true, ownMask(out)
	}
	return impl.AclOut{Acl: out}
}

var someIds = []int64{0, 1, 2, 4, 5, 6, 7, 8, 9, 100, 5000, 9998, 9999}

// Promise 5.
func TestPutInAndTakenOut(t *testing.T) {
	for _, s := range sides() {
		for _, a := range rightAcls() {
			for _, id := range someIds {
				wantAcl(t, "drop "+s.name, s.drop(a, id), ownDrop(a, s, id))
				for _, bits := range []int64{0, 3, 6, 7} {
					n := impl.Named{Id: id, Bits: bits}
					got := s.put(a, id, bits)
					wantAcl(t, "put "+s.name, got, ownPut(a, s, n))
					if got.Code != impl.OK {
						continue
					}
					if !slices.Contains(*s.list(&got.Acl), n) {
						t.Errorf("%s %+v is not in %+v", s.name, n, got.Acl)
					}
					gone := s.drop(got.Acl, id)
					wantAcl(t, "drop "+s.name, gone, ownDrop(got.Acl, s, id))
					wantAcl(t, "drop again "+s.name, s.drop(gone.Acl, id), impl.AclOut{Code: impl.ErrNone})
				}
			}
		}
	}
}

// Promise 5.
func TestPutByHand(t *testing.T) {
	bare := impl.AclOf(0o640)
	five := impl.PutUser(bare, 5, 2)
	wantAcl(t, "first", five, impl.AclOut{Acl: impl.Acl{User: 6, Group: 4, Users: named(5, 2), Masked: true, Mask: 6}})
	wantAcl(t, "ahead", impl.PutUser(five.Acl, 4, 1), impl.AclOut{Acl: impl.Acl{User: 6, Group: 4, Users: named(4, 1, 5, 2), Masked: true, Mask: 7}})
	wantAcl(t, "behind", impl.PutUser(five.Acl, 6, 0), impl.AclOut{Acl: impl.Acl{User: 6, Group: 4, Users: named(5, 2, 6, 0), Masked: true, Mask: 6}})
	wantAcl(t, "again", impl.PutUser(five.Acl, 5, 4), impl.AclOut{Acl: impl.Acl{User: 6, Group: 4, Users: named(5, 4), Masked: true, Mask: 4}})
	wantAcl(t, "a group of the same id", impl.PutGroup(five.Acl, 5, 1), impl.AclOut{Acl: impl.Acl{User: 6, Group: 4, Users: named(5, 2), Groups: named(5, 1), Masked: true, Mask: 7}})
	wantAcl(t, "the last one", impl.DropUser(five.Acl, 5), impl.AclOut{Acl: bare})
	wantAcl(t, "a group that is a user", impl.DropGroup(five.Acl, 5), impl.AclOut{Code: impl.ErrNone})
	wantAcl(t, "nobody", impl.DropUser(bare, 5), impl.AclOut{Code: impl.ErrNone})
	wantAcl(t, "nobody, though there is a mask", impl.DropUser(impl.SetMask(bare, 7).Acl, 5), impl.AclOut{Code: impl.ErrNone})

	both := impl.PutGroup(five.Acl, 7, 1).Acl
	wantAcl(t, "a group is left", impl.DropUser(both, 5), impl.AclOut{Acl: impl.Acl{User: 6, Group: 4, Groups: named(7, 1), Masked: true, Mask: 5}})
	wantAcl(t, "a user is left", impl.DropGroup(both, 7), impl.AclOut{Acl: impl.Acl{User: 6, Group: 4, Users: named(5, 2), Masked: true, Mask: 6}})
	wantAcl(t, "the same one sets the mask anew", impl.PutUser(impl.SetMask(five.Acl, 0).Acl, 5, 2), five)

	full := masked(sixNamed(), sixNamed(), 0)
	wantAcl(t, "one too many", impl.PutUser(full, 7, 7), impl.AclOut{Code: impl.ErrFull})
	wantAcl(t, "one too many", impl.PutGroup(full, 9998, 0), impl.AclOut{Code: impl.ErrFull})
	wantAcl(t, "one of six", impl.PutUser(full, 9999, 2), impl.AclOut{Acl: masked(named(0, 1, 4, 2, 5, 4, 6, 7, 100, 0, 9999, 2), sixNamed(), 7)})
	wantAcl(t, "six users, one group", impl.PutGroup(masked(sixNamed(), nil, 0), 3, 3), impl.AclOut{Acl: masked(sixNamed(), named(3, 3), 7)})
}

// Promise 5.
func TestSetMask(t *testing.T) {
	for _, a := range rightAcls() {
		for bits := range int64(8) {
			want := copyOfAcl(a)
			want.Masked, want.Mask = true, bits
			wantAcl(t, "SetMask", impl.SetMask(a, bits), impl.AclOut{Acl: want})
		}
	}
}

// All faults of form are named ahead of a full list and of nobody there.
func TestListsOfNamesNotRight(t *testing.T) {
	form := impl.AclOut{Code: impl.ErrForm}
	full := masked(sixNamed(), sixNamed(), 7)
	for _, a := range wrongAcls() {
		wantAcl(t, "AclChmod", impl.AclChmod(a, 0), form)
		wantAcl(t, "AclBorn", impl.AclBorn(a, 0), form)
		wantAcl(t, "SetMask", impl.SetMask(a, 0), form)
		for _, s := range sides() {
			wantAcl(t, "put "+s.name, s.put(a, 50, 1), form)
			wantAcl(t, "put "+s.name, s.put(a, 5, 1), form)
			wantAcl(t, "drop "+s.name, s.drop(a, 5), form)
			wantAcl(t, "drop "+s.name, s.drop(a, 50), form)
		}
	}
	for _, a := range []impl.Acl{{}, full} {
		for _, n := range append([]int64{4096}, farNumbers...) {
			wantAcl(t, "AclChmod", impl.AclChmod(a, n), form)
			wantAcl(t, "AclBorn", impl.AclBorn(a, n), form)
		}
		for _, n := range append([]int64{8}, farNumbers...) {
			wantAcl(t, "SetMask", impl.SetMask(a, n), form)
		}
		for _, s := range sides() {
			for _, n := range farNumbers {
				wantAcl(t, "put "+s.name, s.put(a, n, 1), form)
				wantAcl(t, "drop "+s.name, s.drop(a, n), form)
			}
			for _, n := range append([]int64{8}, farNumbers...) {
				wantAcl(t, "put "+s.name, s.put(a, 50, n), form)
				wantAcl(t, "put "+s.name, s.put(a, 5, n), form)
			}
		}
	}
}

// someCreds are in each of the groups of sixNamed, in several of them, and in none.
func someCreds() []impl.Cred {
	return []impl.Cred{{Uid: 1, Gid: 2}, {Uid: 1, Gid: 3, Root: true}, {Uid: 5, Gid: 2}, {Uid: 5, Gid: 3}, {Uid: 8, Gid: 2}, {Uid: 9, Gid: 5}, {Uid: 9, Gid: 3, Groups: []int64{5}},
		{Uid: 9, Gid: 3, Groups: []int64{2}}, {Uid: 9, Gid: 2, Groups: []int64{5}}, {Uid: 9, Gid: 3, Groups: []int64{2, 5}}, {Uid: 9, Gid: 8, Groups: []int64{0, 2, 4, 5, 7}},
		{Uid: 9, Gid: 0, Groups: []int64{4}}, {Uid: 9, Gid: 3}, {Uid: 9, Gid: 3, Root: true}, {Uid: 3, Gid: 1}, {Uid: 9999, Gid: 9999, Groups: []int64{9999}}, {}}
}

// ownClass tells anew, apart from the program, who is what, and whether they may.
func ownClass(a impl.Acl, owner int64, group int64, c impl.Cred, want int64) (int64, bool) {
	all := func(bits int64) bool { return bits|want == bits }
	in := func(gid int64) bool { return gid == c.Gid || slices.Contains(c.Groups, gid) }
	if c.Uid == owner {
		return 1, all(a.User)
	}
	for _, n := range a.Users {
		if n.Id == c.Uid {
			return 2, all(n.Bits) && all(a.Mask)
		}
	}
	member, enough := in(group), in(group) && all(a.Group)
	for _, n := range a.Groups {
		member = member || in(n.Id)
		enough = enough || in(n.Id) && all(n.Bits)
	}
	if enough {
		return 3, all(ownGroupClass(a))
	}
	if member {
		return 4, false
	}
	return 5, all(a.Other)
}

// askedAcls have each mask and no mask, and bits of their own for each class.
func askedAcls() []impl.Acl {
	out := rightAcls()
	for mask := range int64(8) {
		out = append(out, masked(named(5, 6, 8, 3), named(5, 3, 7, 4), mask), masked(nil, named(0, 4, 4, 2), mask), masked(named(1, 7, 5, 1), nil, mask),
			impl.Acl{User: 1, Group: mask, Other: 6}, impl.Acl{User: mask, Group: 1, Other: 2}, impl.Acl{User: 4, Group: 2, Other: mask})
	}
	return out
}

// Promise 6.
func TestWhoIsWhatAndMay(t *testing.T) {
	seen := map[int64]int{}
	for _, a := range askedAcls() {
		for _, c := range someCreds() {
			for _, group := range []int64{2, 5} {
				for want := range int64(8) {
					class, may := ownClass(a, 1, group, c, want)
					seen[class]++
					if got := impl.AclClass(a, 1, group, c, want); got != class {
						t.Errorf("AclClass(%+v, 1, %d, %+v, %d): got %d, want %d", a, group, c, want, got, class)
					}
					if got := impl.AclMay(a, 1, group, c, want); got != may {
						t.Errorf("AclMay(%+v, 1, %d, %+v, %d): got %v, want %v", a, group, c, want, got, may)
					}
				}
			}
		}
	}
	for class := range int64(5) {
		if seen[class+1] == 0 {
			t.Errorf("nobody was of class %d", class+1)
		}
	}
}

// Promise 6.
func TestWhoIsWhatByHand(t *testing.T) {
	a := impl.Acl{User: 2, Group: 4, Other: 7, Users: named(5, 7), Groups: named(7, 3, 8, 6), Masked: true, Mask: 6}
	rows := []struct {
		c     impl.Cred
		want  int64
		class int64
		may   bool
	}{
		{impl.Cred{Uid: 1, Gid: 7}, 2, 1, true}, {impl.Cred{Uid: 1, Gid: 7}, 4, 1, false}, {impl.Cred{Uid: 1, Gid: 7, Root: true}, 1, 1, false},
		{impl.Cred{Uid: 5, Gid: 2}, 6, 2, true}, {impl.Cred{Uid: 5, Gid: 2}, 1, 2, false}, {impl.Cred{Uid: 5, Gid: 7}, 0, 2, true},
		{impl.Cred{Uid: 9, Gid: 2}, 4, 3, true}, {impl.Cred{Uid: 9, Gid: 2}, 2, 4, false}, {impl.Cred{Uid: 9, Gid: 2}, 0, 3, true},
		{impl.Cred{Uid: 9, Gid: 7}, 3, 3, false}, {impl.Cred{Uid: 9, Gid: 7}, 2, 3, true}, {impl.Cred{Uid: 9, Gid: 7}, 4, 4, false},
		{impl.Cred{Uid: 9, Gid: 2, Groups: []int64{7}}, 6, 4, false}, {impl.Cred{Uid: 9, Gid: 2, Groups: []int64{7, 8}}, 6, 3, true}, {impl.Cred{Uid: 9, Gid: 7, Groups: []int64{2, 8}}, 7, 4, false},
		{impl.Cred{Uid: 9, Gid: 3}, 7, 5, true}, {impl.Cred{Uid: 7, Gid: 9}, 1, 5, true}, {impl.Cred{Uid: 2, Gid: 5}, 7, 5, true},
	}
	for _, r := range rows {
		if got := impl.AclClass(a, 1, 2, r.c, r.want); got != r.class {
			t.Errorf("AclClass of %+v, %d: got %d, want %d", r.c, r.want, got, r.class)
		}
		if got := impl.AclMay(a, 1, 2, r.c, r.want); got != r.may {
			t.Errorf("AclMay of %+v, %d: got %v", r.c, r.want, got)
		}
	}
}

// Promise 6.
func TestWhoAllMayMayEach(t *testing.T) {
	for _, a := range askedAcls() {
		for _, c := range someCreds() {
			for want := range int64(8) {
				if !impl.AclMay(a, 1, 2, c, want) {
					continue
				}
				for less := range int64(8) {
					if less&want == less && !impl.AclMay(a, 1, 2, c, less) {
						t.Errorf("%+v: %+v may %d, and not %d", a, c, want, less)
					}
				}
			}
		}
	}
}

// Promise 6.
func TestMoreBitsInAMaskAndTheOwner(t *testing.T) {
	for _, a := range askedAcls() {
		for _, c := range someCreds() {
			for want := range int64(8) {
				for mask := range int64(8) {
					less := impl.SetMask(a, mask).Acl
					for more := range int64(8) {
						if impl.AclMay(less, 1, 2, c, want) && !impl.AclMay(impl.SetMask(a, mask|more).Acl, 1, 2, c, want) {
							t.Errorf("%+v: %+v may %d by mask %d, and not by %d", a, c, want, mask, mask|more)
						}
					}
				}
				others := copyOfAcl(a)
				others.Group, others.Other = 7-a.Group, 7-a.Other
				if got, is := impl.AclMay(others, c.Uid, 2, c, want), a.User&want == want; got != is {
					t.Errorf("%+v: its owner %+v, %d: got %v", others, c, want, got)
				}
			}
		}
	}
}

// Promise 6.
func TestAskedOfWhatIsNotRight(t *testing.T) {
	all := impl.Acl{User: 7, Group: 7, Other: 7}
	ask := func(what string, a impl.Acl, owner int64, group int64, c impl.Cred, want int64) {
		t.Helper()
		if class, may := impl.AclClass(a, owner, group, c, want), impl.AclMay(a, owner, group, c, want); class != 0 || may {
			t.Errorf("%s: got %d and %v", what, class, may)
		}
	}
	for _, a := range wrongAcls() {
		for _, c := range someCreds() {
			ask("list", a, 1, 2, c, 0)
		}
	}
	for _, c := range wrongCreds() {
		ask("cred", all, 1, 2, c, 0)
		ask("cred", all, c.Uid, c.Gid, c, 0)
	}
	for _, n := range farNumbers {
		ask("owner", all, n, 2, impl.Cred{Uid: 1, Gid: 2}, 0)
		ask("group", all, 1, n, impl.Cred{Uid: 1, Gid: 2}, 0)
	}
	for _, n := range append([]int64{8, 15}, farNumbers...) {
		for _, c := range someCreds() {
			ask("want", all, 1, 2, c, n)
		}
	}
	if !impl.AclMay(all, 9999, 9999, impl.Cred{Uid: 9999, Gid: 9999}, 7) || impl.AclClass(all, 0, 0, impl.Cred{}, 7) != 1 {
		t.Error("the ends of ids are right")
	}
}

// roomy has room behind its items, so that what is put in could be written over what stands there.
func roomy(list []impl.Named) []impl.Named {
	big := append(append(make([]impl.Named, 0, 20), list...), named(70, 7, 71, 7, 72, 7)...)
	return big[:len(list)]
}

func scribble(list []impl.Named) {
	list = list[:cap(list)]
	for i := range list {
		list[i] = impl.Named{Id: 77, Bits: 7}
	}
}

func TestListsOfNamesShareNothing(t *testing.T) {
	for _, base := range rightAcls() {
		calls := []func(impl.Acl) impl.AclOut{
			func(a impl.Acl) impl.AclOut { return impl.AclChmod(a, 0o123) },
			func(a impl.Acl) impl.AclOut { return impl.AclBorn(a, 0o777) },
			func(a impl.Acl) impl.AclOut { return impl.SetMask(a, 3) },
		}
		for _, id := range someIds {
			for _, s := range sides() {
				calls = append(calls, func(a impl.Acl) impl.AclOut { return s.drop(a, id) })
				for _, bits := range []int64{1, 6} {
					calls = append(calls, func(a impl.Acl) impl.AclOut { return s.put(a, id, bits) })
				}
			}
		}
		for i, call := range calls {
			a := base
			a.Users, a.Groups = roomy(base.Users), roomy(base.Groups)
			before, behind := copyOfAcl(a), append([]impl.Named{}, a.Users[:cap(a.Users)]...)
			got := call(a)
			if !sameAcl(a, before) || !slices.Equal(behind, a.Users[:cap(a.Users)]) {
				t.Fatalf("call %d changed %+v to %+v", i, before, a)
			}
			answer := copyOfAcl(got.Acl)
			scribble(a.Users)
			scribble(a.Groups)
			if !sameAcl(answer, got.Acl) {
				t.Fatalf("call %d of %+v shares memory with what was handed in", i, before)
			}
			scribble(got.Acl.Users)
			if !slices.Equal(answer.Groups, got.Acl.Groups) {
				t.Fatalf("call %d of %+v: two lists of the answer share memory", i, before)
			}
		}
	}
}

// Users and Groups that are one list when handed in are two in the answer.
func TestOneListHandedInTwice(t *testing.T) {
	list := sixNamed()
	for _, got := range []impl.AclOut{impl.AclChmod(masked(list, list, 7), 0), impl.SetMask(masked(list, list, 7), 1), impl.DropUser(masked(list, list, 7), 9999), impl.PutUser(masked(list, list, 7), 0, 1)} {
		scribble(got.Acl.Users)
		if !slices.Equal(got.Acl.Groups, sixNamed()) || !slices.Equal(list, sixNamed()) {
			t.Errorf("the lists share memory: %+v, %+v", got.Acl, list)
		}
	}
}

func TestAskingChangesNothing(t *testing.T) {
	for _, a := range rightAcls() {
		before := copyOfAcl(a)
		c := impl.Cred{Uid: 9, Gid: 3, Groups: []int64{2, 5}}
		impl.AclRight(a)
		impl.ModeOf(a)
		impl.MaskOf(a)
		impl.Bare(a)
		impl.AclMay(a, 1, 2, c, 7)
		impl.AclClass(a, 1, 2, c, 7)
		if !sameAcl(a, before) || !slices.Equal(c.Groups, []int64{2, 5}) {
			t.Errorf("%+v is changed to %+v, or %+v", before, a, c)
		}
	}
}
