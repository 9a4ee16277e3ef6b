package tests

import (
	"encoding/binary"
	"math"
	"reflect"
	"regexp"
	"slices"
	"strings"
	"testing"

	"loop.example/g00622/impl"
)

// entryOwn is an entry's four bytes; of an id of 65535 they say that it has none.
func entryOwn(kind int64, bits int64, id int64) string {
	return string([]byte{byte(kind), byte(bits), byte(id / 256 % 256), byte(id % 256)})
}

// aclOwnBytes tells the bytes anew, apart from the program, also of lists that are not right.
func aclOwnBytes(a impl.Acl) string {
	parts := []string{"\x02", entryOwn(1, a.User, 65535)}
	for _, n := range a.Users {
		parts = append(parts, entryOwn(2, n.Bits, n.Id))
	}
	parts = append(parts, entryOwn(4, a.Group, 65535))
	for _, n := range a.Groups {
		parts = append(parts, entryOwn(8, n.Bits, n.Id))
	}
	if a.Masked {
		parts = append(parts, entryOwn(16, a.Mask, 65535))
	}
	return strings.Join(append(parts, entryOwn(32, a.Other, 65535)), "")
}

var aclShape = regexp.MustCompile("^Uu{0,6}Gg{0,6}M?O$")

// ownAclFrom tells anew, apart from the program, what AclFrom has to answer.
func ownAclFrom(text string) impl.AclOut {
	switch {
	case len(text) > impl.MaxBytes:
		return impl.AclOut{Code: impl.ErrSize}
	case len(text) == 0:
		return impl.AclOut{Code: impl.ErrShort}
	case text[0] != 2:
		return impl.AclOut{Code: impl.ErrState}
	}
	wrong := impl.AclOut{Code: impl.ErrSyntax}
	a, shape := impl.Acl{}, ""
	for rest := text[1:]; rest != ""; rest = rest[4:] {
		if len(rest) < 4 {
			return wrong
		}
		sign := map[byte]string{1: "U", 2: "u", 4: "G", 8: "g", 16: "M", 32: "O"}[rest[0]]
		bits, id := int64(rest[1]), int64(binary.BigEndian.Uint16([]byte(rest[2:4])))
		if sign == "" || bits > 7 || strings.Contains("ug", sign) && id > 9999 || strings.Contains("UGMO", sign) && id != 65535 {
			return wrong
		}
		shape += sign
		switch sign {
		case "U":
			a.User = bits
		case "u":
			a.Users = append(a.Users, impl.Named{Id: id, Bits: bits})
		case "G":
			a.Group = bits
		case "g":
			a.Groups = append(a.Groups, impl.Named{Id: id, Bits: bits})
		case "M":
			a.Masked, a.Mask = true, bits
		case "O":
			a.Other = bits
		}
	}
	rises := func(x, y impl.Named) int { return int(x.Id - y.Id) }
	once := func(list []impl.Named) bool {
		return len(slices.CompactFunc(slices.Clone(list), func(x, y impl.Named) bool { return x.Id == y.Id })) == len(list)
	}
	if !aclShape.MatchString(shape) || strings.ContainsAny(shape, "ug") && !a.Masked || !slices.IsSortedFunc(a.Users, rises) || !slices.IsSortedFunc(a.Groups, rises) || !once(a.Users) || !once(a.Groups) {
		return wrong
	}
	return impl.AclOut{Acl: a}
}

func wantAclFrom(t *testing.T, text string, want impl.AclOut) {
	t.Helper()
	got := impl.AclFrom(text)
	if got.Code != want.Code || !sameAcl(got.Acl, want.Acl) {
		t.Errorf("AclFrom(%.120q of %d bytes): got %+v, want %+v", text, len(text), got, want)
	}
}

// numsOwn puts numbers together as PutNum does, by another's hand.
func numsOwn(numbers ...int64) string {
	var out []byte
	for _, n := range numbers {
		out = binary.AppendVarint(out, n)
	}
	return string(out)
}

func aceOwnNumbers(x impl.Ace) []int64 {
	numbers := []int64{0, x.Who, x.Id, x.Flags, x.Mask}
	if x.Allow {
		numbers[0] = 1
	}
	return numbers
}

// nfsOwnBody is what is sealed: of any count, whether so many come or not, and of aces that need not be right.
func nfsOwnBody(count int64, l []impl.Ace) string {
	numbers := []int64{count}
	for _, x := range l {
		numbers = append(numbers, aceOwnNumbers(x)...)
	}
	return numsOwn(numbers...)
}

func nfsOwnBytes(l []impl.Ace) string {
	return sealed(nfsOwnBody(int64(len(l)), l))
}

// ownNfsFrom tells anew, apart from the program, what NfsFrom has to answer.
func ownNfsFrom(text string) impl.NfsOut {
	switch {
	case len(text) > impl.MaxBytes:
		return impl.NfsOut{Code: impl.ErrSize}
	case len(text) < 4:
		return impl.NfsOut{Code: impl.ErrShort}
	case sealed(text[:len(text)-4]) != text:
		return impl.NfsOut{Code: impl.ErrSum}
	}
	var numbers []int64
	for rest := []byte(text[:len(text)-4]); len(rest) > 0; {
		n, size := binary.Varint(rest)
		if size <= 0 {
			return impl.NfsOut{Code: impl.ErrSyntax}
		}
		numbers, rest = append(numbers, n), rest[size:]
	}
	if numsOwn(numbers...) != text[:len(text)-4] || len(numbers) == 0 || numbers[0] > impl.MaxAces || int64(len(numbers)) != 1+5*numbers[0] {
		return impl.NfsOut{Code: impl.ErrSyntax}
	}
	var l []impl.Ace
	for row := range slices.Chunk(numbers[1:], 5) {
		x := impl.Ace{Allow: row[0] == 1, Who: row[1], Id: row[2], Flags: row[3], Mask: row[4]}
		if row[0]*row[0] != row[0] || !impl.AceRight(x) {
			return impl.NfsOut{Code: impl.ErrSyntax}
		}
		l = append(l, x)
	}
	return impl.NfsOut{List: l}
}

func wantNfsFrom(t *testing.T, text string, want impl.NfsOut) {
	t.Helper()
	got := impl.NfsFrom(text)
	if got.Code != want.Code || !slices.Equal(got.List, want.List) {
		t.Errorf("NfsFrom(%.120q of %d bytes): got %+v, want %+v", text, len(text), got, want)
	}
}

// Promise 11.
func TestListsOfNamesComeBackFromBytes(t *testing.T) {
	check := func(a impl.Acl) {
		t.Helper()
		text := impl.AclBytes(a)
		if want := aclOwnBytes(a); text != want {
			t.Errorf("AclBytes(%+v): got %q, want %q", a, text, want)
		}
		wantAclFrom(t, text, impl.AclOut{Acl: a})
	}
	for _, a := range rightAcls() {
		check(a)
	}
	for n := range int64(4096) {
		check(impl.Acl{User: n % 8, Group: n / 8 % 8, Other: n / 64 % 8, Masked: true, Mask: n / 512})
		check(impl.Acl{User: n % 8, Group: n / 8 % 8, Other: n / 64 % 8})
	}
	for id := range int64(10000) {
		check(masked(named(id, id%8), named(9999-id, id/8%8), 5))
	}
	for count := range impl.MaxNamed + 1 {
		for other := range impl.MaxNamed + 1 {
			check(masked(sixNamed()[:count], sixNamed()[other:], 3))
		}
	}
}

// Promise 11.
func TestListsOfNamesAsBytesByHand(t *testing.T) {
	rows := map[string]impl.Acl{
		"\x02\x01\x00\xff\xff\x04\x00\xff\xff\x20\x00\xff\xff":                                                                                                                 {},
		"\x02\x01\x07\xff\xff\x04\x05\xff\xff\x20\x01\xff\xff":                                                                                                                 {User: 7, Group: 5, Other: 1},
		"\x02\x01\x07\xff\xff\x04\x05\xff\xff\x10\x00\xff\xff\x20\x01\xff\xff":                                                                                                 {User: 7, Group: 5, Other: 1, Masked: true},
		"\x02\x01\x06\xff\xff\x02\x04\x00\x00\x02\x02\x27\x0f\x04\x00\xff\xff\x08\x07\x01\x00\x10\x07\xff\xff\x20\x04\xff\xff":                                                 {User: 6, Other: 4, Masked: true, Mask: 7, Users: named(0, 4, 9999, 2), Groups: named(256, 7)},
		"\x02\x01\x00\xff\xff\x04\x00\xff\xff\x08\x00\x00\x02\x08\x01\x00\xff\x10\x00\xff\xff\x20\x00\xff\xff":                                                                 {Masked: true, Groups: named(2, 0, 255, 1)},
		"\x02\x01\x00\xff\xff\x02\x00\x00\x01\x02\x00\x00\x02\x02\x00\x00\x03\x02\x00\x00\x04\x02\x00\x00\x05\x02\x00\x00\x06\x04\x00\xff\xff\x10\x00\xff\xff\x20\x00\xff\xff": {Masked: true, Users: named(1, 0, 2, 0, 3, 0, 4, 0, 5, 0, 6, 0)},
	}
	for text, a := range rows {
		if got := impl.AclBytes(a); got != text {
			t.Errorf("AclBytes(%+v): got %q, want %q", a, got, text)
		}
		wantAclFrom(t, text, impl.AclOut{Acl: a})
	}
}

// Promise 11: lists that are not right have no bytes, and the bytes that they would have are read as none.
func TestListsOfNamesThatAreNotRightHaveNoBytes(t *testing.T) {
	for i, a := range wrongAcls() {
		if got := impl.AclBytes(a); got != "" {
			t.Errorf("list %d that is not right has the bytes %.200q", i, got)
		}
		text := aclOwnBytes(a)
		wantAclFrom(t, text, ownAclFrom(text))
	}
	seven := named(1, 1, 2, 1, 3, 1, 4, 1, 5, 1, 6, 1, 7, 1)
	for _, list := range [][]impl.Named{seven, named(5, 1, 5, 2), named(5, 1, 5, 1), named(6, 1, 5, 1), named(256, 1, 1, 1), named(1, 1, 3, 1, 2, 1), named(5, 8), named(5, 255), named(10000, 1), named(1, 1, 65534, 1), named(65535, 1)} {
		for _, a := range []impl.Acl{masked(list, nil, 7), masked(nil, list, 7), masked(list, sixNamed(), 7), masked(sixNamed(), list, 7)} {
			wantAclFrom(t, aclOwnBytes(a), impl.AclOut{Code: impl.ErrSyntax})
		}
	}
	for _, bits := range []int64{8, 9, 16, 128, 255} {
		for _, a := range []impl.Acl{{User: bits}, {Group: bits}, {Other: bits}, {Masked: true, Mask: bits}} {
			wantAclFrom(t, aclOwnBytes(a), impl.AclOut{Code: impl.ErrSyntax})
		}
	}
}

// Promise 11.
func TestBytesOfNoListOfNames(t *testing.T) {
	wantAclFrom(t, "", impl.AclOut{Code: impl.ErrShort})
	user, group, other, mask := entryOwn(1, 7, 65535), entryOwn(4, 5, 65535), entryOwn(32, 1, 65535), entryOwn(16, 7, 65535)
	five, six, namedGroup := entryOwn(2, 4, 5), entryOwn(2, 4, 6), entryOwn(8, 4, 5)
	right := []string{user + group + other, user + group + mask + other, user + five + group + mask + other, user + five + six + group + namedGroup + mask + other}
	for _, body := range right {
		if got := impl.AclFrom("\x02" + body); got.Code != impl.OK {
			t.Errorf("%q is right: got %+v", body, got)
		}
		for first := range 256 {
			if first != 2 {
				wantAclFrom(t, string([]byte{byte(first)})+body, impl.AclOut{Code: impl.ErrState})
				wantAclFrom(t, string([]byte{byte(first)}), impl.AclOut{Code: impl.ErrState})
			}
		}
		wantAclFrom(t, body, impl.AclOut{Code: impl.ErrState})
		wantAclFrom(t, "\x02\x02"+body, impl.AclOut{Code: impl.ErrSyntax})
	}
	bodies := []string{"", "\x00", "\x02", user, other, "\x00\x00\x00\x00", "\x02\x02\x02\x02", "\xff\xff\xff\xff",
		// Something is left out, or there twice.
		user + group, user + other, group + other, user + group + mask, user + mask + other, user + user + group + other, user + group + group + other, user + group + other + other, user + group + mask + mask + other,
		user + five + group + mask, five + group + mask + other, user + five + mask + other, user + five + five + group + mask + other, user + group + namedGroup + namedGroup + mask + other,
		user + group + other + user + group + other,
		// In another order.
		group + user + other, user + other + group, other + group + user, user + group + other + mask, user + mask + group + other, mask + user + group + other, five + user + group + mask + other, user + group + five + mask + other,
		user + group + mask + five + other, user + namedGroup + group + mask + other, user + group + mask + namedGroup + other, user + group + mask + other + namedGroup, user + namedGroup + five + group + mask + other,
		// Ids that do not rise.
		user + six + five + group + mask + other, user + group + entryOwn(8, 4, 256) + entryOwn(8, 4, 1) + mask + other,
		// Ids where none may be.
		entryOwn(1, 7, 0) + group + other, entryOwn(1, 7, 5) + group + other, user + entryOwn(4, 5, 0) + other, user + entryOwn(4, 5, 65534) + other, user + group + entryOwn(32, 1, 0), user + group + entryOwn(32, 1, 255),
		user + group + entryOwn(16, 7, 0) + other, user + group + entryOwn(16, 7, 9999) + other, user + group + entryOwn(16, 7, 65280) + other,
		// None where one must be, and one that is no id.
		user + entryOwn(2, 4, 65535) + group + mask + other, user + group + entryOwn(8, 4, 65535) + mask + other, user + entryOwn(2, 4, 10000) + group + mask + other, user + group + entryOwn(8, 4, 10000) + mask + other,
		user + entryOwn(2, 4, 32768) + group + mask + other,
		// Bits beyond the limit.
		entryOwn(1, 8, 65535) + group + other, user + entryOwn(4, 8, 65535) + other, user + group + entryOwn(32, 8, 65535), user + group + entryOwn(16, 8, 65535) + other, user + entryOwn(2, 8, 5) + group + mask + other,
		user + group + entryOwn(8, 255, 5) + mask + other,
		// A mask has to be there if somebody is named.
		user + five + group + other, user + group + namedGroup + other, user + five + group + namedGroup + other}
	for _, body := range bodies {
		wantAclFrom(t, "\x02"+body, impl.AclOut{Code: impl.ErrSyntax})
	}
	for kind := range int64(256) {
		if !slices.Contains([]int64{1, 2, 4, 8, 16, 32}, kind) {
			for _, body := range []string{entryOwn(kind, 7, 65535) + group + other, user + entryOwn(kind, 4, 5) + group + mask + other, user + group + entryOwn(kind, 4, 65535) + other, user + group + mask + other + entryOwn(kind, 0, 0)} {
				wantAclFrom(t, "\x02"+body, impl.AclOut{Code: impl.ErrSyntax})
			}
		}
	}
}

// nearBytes goes through the texts that are a byte, or an entry of four bytes, away from a text, and its pieces.
func nearBytes(text string, yield func(string)) {
	for i := range len(text) + 1 {
		for b := range 256 {
			yield(text[:i] + string([]byte{byte(b)}) + text[i:])
			if i < len(text) {
				yield(text[:i] + string([]byte{byte(b)}) + text[i+1:])
			}
		}
		yield(text[:i])
		yield(text[i:])
		if i < len(text) {
			yield(text[:i] + text[i+1:])
		}
	}
	var parts []string
	for rest := text[1:]; len(rest) >= 4; rest = rest[4:] {
		parts = append(parts, rest[:4])
	}
	for i := range parts {
		yield(text[:1] + strings.Join(slices.Delete(slices.Clone(parts), i, i+1), ""))
		for j := range parts {
			swapped := slices.Clone(parts)
			swapped[i], swapped[j] = swapped[j], swapped[i]
			yield(text[:1] + strings.Join(swapped, ""))
			yield(text[:1] + strings.Join(slices.Insert(slices.Clone(parts), j, parts[i]), ""))
		}
	}
}

// Promise 11.
func TestBytesNearAListOfNames(t *testing.T) {
	for _, a := range []impl.Acl{{User: 7, Group: 5, Other: 1}, {Group: 2, Masked: true, Mask: 3}, masked(named(5, 6), nil, 6), masked(named(5, 6, 256, 1), named(0, 1, 9999, 4), 7), masked(sixNamed(), sixNamed(), 0)} {
		nearBytes(aclOwnBytes(a), func(close string) {
			wantAclFrom(t, close, ownAclFrom(close))
		})
	}
}

// Promise 12.
func TestListsInOrderComeBackFromBytes(t *testing.T) {
	check := func(l []impl.Ace) {
		t.Helper()
		text := impl.NfsBytes(l)
		if want := nfsOwnBytes(l); text != want {
			t.Errorf("NfsBytes(%+v): got %q, want %q", l, text, want)
		}
		wantNfsFrom(t, text, impl.NfsOut{List: l})
	}
	for _, l := range append(rightLists(), lots(2), lots(impl.MaxAces-1)) {
		check(l)
	}
	eachAce(func(x impl.Ace) { check([]impl.Ace{x}) })
	for id := range int64(10000) {
		check([]impl.Ace{allow(impl.WhUser, id, 0, 1), deny(impl.WhNamed, 9999-id, 15, 255)})
	}
	// As many bytes as there may be.
	check(slices.Repeat([]impl.Ace{deny(impl.WhNamed, 9999, 15, 255)}, impl.MaxAces))
}

// Promise 12.
func TestListsInOrderAsBytesByHand(t *testing.T) {
	rows := map[string][]impl.Ace{
		"\x00":                                             nil,
		"\x02\x02\x08\x0a\x06\x86\x02":                     {allow(impl.WhUser, 5, 3, 131)},
		"\x02\x00\x02\x00\x00\x02":                         {deny(impl.WhOwner, 0, 0, 1)},
		"\x02\x02\x0a\x9e\x9c\x01\x1e\xfe\x03":             {allow(impl.WhNamed, 9999, 15, 255)},
		"\x04\x02\x04\x00\x02\x7e\x00\x06\x00\x04\x80\x01": {allow(impl.WhGroup, 0, 1, 63), deny(impl.WhEvery, 0, 2, 64)},
	}
	for body, l := range rows {
		if got := impl.NfsBytes(l); got != sealed(body) {
			t.Errorf("NfsBytes(%+v): got %q, want %q", l, got, sealed(body))
		}
		wantNfsFrom(t, sealed(body), impl.NfsOut{List: l})
	}
	if got := impl.NfsBytes([]impl.Ace{}); got != "\x00\x8d\xef\x02\xd2" {
		t.Errorf("a list without an item: got %q", got)
	}
}

// Promise 12: lists that are not right have no bytes, and the bytes that they would have are read as none.
func TestListsInOrderThatAreNotRightHaveNoBytes(t *testing.T) {
	for i, l := range append(wrongLists(), tooLongLists()...) {
		if got := impl.NfsBytes(l); got != "" {
			t.Errorf("list %d of %d, which is not right, has the bytes %.100q", i, len(l), got)
		}
		if text := nfsOwnBytes(l); len(text) <= impl.MaxBytes {
			wantNfsFrom(t, text, impl.NfsOut{Code: impl.ErrSyntax})
		} else {
			wantNfsFrom(t, text, impl.NfsOut{Code: impl.ErrSize})
		}
	}
	for _, x := range wrongAces() {
		wantNfsFrom(t, nfsOwnBytes([]impl.Ace{x}), impl.NfsOut{Code: impl.ErrSyntax})
		wantNfsFrom(t, nfsOwnBytes(append(lots(impl.MaxAces-1), x)), impl.NfsOut{Code: impl.ErrSyntax})
	}
}

// Promise 12: without a right seal nothing else is looked at.
func TestBytesOfAListInOrderCutOrTurned(t *testing.T) {
	for _, l := range [][]impl.Ace{nil, lots(1), {allow(impl.WhNamed, 9999, 15, 255), deny(impl.WhEvery, 0, 0, 1)}, lots(impl.MaxAces)} {
		whole := nfsOwnBytes(l)
		for i := range len(whole) {
			want := impl.NfsOut{Code: impl.ErrSum}
			if i < 4 {
				want.Code = impl.ErrShort
			}
			wantNfsFrom(t, whole[:i], want)
			wantNfsFrom(t, whole[i:], ownNfsFrom(whole[i:]))
			for turn := 1; turn < 256; turn++ {
				b := []byte(whole)
				b[i] ^= byte(turn)
				wantNfsFrom(t, string(b), impl.NfsOut{Code: impl.ErrSum})
			}
		}
		wantNfsFrom(t, whole+"\x00", impl.NfsOut{Code: impl.ErrSum})
		wantNfsFrom(t, whole[:len(whole)-4], ownNfsFrom(whole[:len(whole)-4]))
	}
	for _, text := range []string{"", "\x00", "\x00\x00", "\x00\x00\x00", "abc"} {
		wantNfsFrom(t, text, impl.NfsOut{Code: impl.ErrShort})
	}
	for _, text := range []string{"abcd", "\x00\x00\x00\x01", "\x00\x00\x00\x00\x00", strings.Repeat("\x00", impl.MaxBytes)} {
		wantNfsFrom(t, text, impl.NfsOut{Code: impl.ErrSum})
	}
}

// Promise 12: what is rightly sealed and yet no list.
func TestSealedBytesOfNoListInOrder(t *testing.T) {
	refuse := func(body string) {
		t.Helper()
		wantNfsFrom(t, sealed(body), impl.NfsOut{Code: impl.ErrSyntax})
	}
	refuse("")
	for _, l := range [][]impl.Ace{nil, lots(1), lots(2), {deny(impl.WhNamed, 9999, 15, 255)}, lots(impl.MaxAces - 1), lots(impl.MaxAces), lots(impl.MaxAces + 1), lots(100)} {
		for _, count := range []int64{-2, -1, 0, 1, 2, 3, 31, 32, 33, 34, 100, 1 << 32, 1<<32 + 1, 1<<62 + 1, math.MinInt64, math.MinInt64 + 1, math.MaxInt64} {
			if count != int64(len(l)) || count > impl.MaxAces {
				refuse(nfsOwnBody(count, l))
			}
		}
		body := nfsOwnBody(int64(len(l)), l)
		for i := range len(body) {
			refuse(body[:i])
		}
		for _, more := range []string{"\x00", "\x02", "\x80", "\xff", numsOwn(1, 3, 0, 0, 1), body} {
			refuse(body + more)
		}
		// Numbers with more bytes than are needed, and of more bytes than a number has.
		refuse(string([]byte{byte(len(l)*2) | 128, 0}) + body[1:])
		refuse(strings.Repeat("\x80", 10) + body)
		refuse(strings.Repeat("\xff", 9) + "\x02" + body)
	}
	good := aceOwnNumbers(allow(impl.WhUser, 5, 3, 131))
	ends := []int64{math.MinInt64, math.MinInt64 + 1, -256, -1, 10000, 1 << 32, 1<<32 + 1, math.MaxInt64 - 1, math.MaxInt64}
	beyond := [][]int64{{-1, 2, 3}, {0, 6, -4}, {10000, 9999 + 65536}, {4, 8, 12, 16}, {0, 256}}
	for i := range good {
		for _, n := range append(slices.Clone(ends), beyond[i]...) {
			numbers := slices.Clone(good)
			numbers[i] = n
			refuse(numsOwn(1) + numsOwn(numbers...))
			refuse(numsOwn(2) + numsOwn(numbers...) + numsOwn(good...))
			refuse(numsOwn(2) + numsOwn(good...) + numsOwn(numbers...))
		}
		refuse(numsOwn(1) + numsOwn(slices.Delete(slices.Clone(good), i, i+1)...))
		refuse(numsOwn(1) + numsOwn(slices.Insert(slices.Clone(good), i, good[i])...))
	}
	for _, who := range []int64{impl.WhOwner, impl.WhGroup, impl.WhEvery} {
		refuse(numsOwn(1, 1, who, 1, 0, 1))
		refuse(numsOwn(1, 0, who, 9999, 0, 1))
	}
}

// Promise 12: bodies that are close to those of a list, sealed anew.
func TestSealedBytesNearAListInOrder(t *testing.T) {
	for _, l := range [][]impl.Ace{nil, {allow(impl.WhUser, 5, 3, 131)}, {allow(impl.WhNamed, 9999, 15, 255), deny(impl.WhOwner, 0, 0, 1), allow(impl.WhEvery, 0, 2, 64)}} {
		nearBytes(nfsOwnBody(int64(len(l)), l), func(close string) {
			wantNfsFrom(t, sealed(close), ownNfsFrom(sealed(close)))
		})
	}
}

// Promises 11 and 12: what is too long is refused as such, ahead of all else; what is just not too long is read.
func TestTooLongBytesOfLists(t *testing.T) {
	acl, nfs := aclOwnBytes(masked(sixNamed(), sixNamed(), 7)), nfsOwnBytes(lots(impl.MaxAces))
	for _, head := range []string{"", "\x00", "\x02", acl, nfs} {
		for _, fill := range []string{"\x00", "\x02", "\xff", "x", acl[1:], acl, nfs, entryOwn(2, 4, 5), entryOwn(1, 7, 65535)} {
			long := (head + strings.Repeat(fill, impl.MaxBytes+1))[:impl.MaxBytes+1]
			for _, text := range []string{long, long + long, sealed(long), sealed(long[:impl.MaxBytes-3])} {
				wantAclFrom(t, text, impl.AclOut{Code: impl.ErrSize})
				wantNfsFrom(t, text, impl.NfsOut{Code: impl.ErrSize})
			}
			full := long[:impl.MaxBytes]
			want := impl.AclOut{Code: impl.ErrSyntax}
			if full[0] != 2 {
				want.Code = impl.ErrState
			}
			wantAclFrom(t, full, want)
			wantNfsFrom(t, full, impl.NfsOut{Code: impl.ErrSum})
			wantNfsFrom(t, sealed(full[:impl.MaxBytes-4]), impl.NfsOut{Code: impl.ErrSyntax})
		}
	}
	// Entries up to just below the limit: all four bytes of each are there.
	wantAclFrom(t, "\x02"+strings.Repeat(entryOwn(2, 4, 5), 1999), impl.AclOut{Code: impl.ErrSyntax})
}

func TestListsAsBytesShareNothing(t *testing.T) {
	for _, base := range rightAcls() {
		a := base
		a.Users, a.Groups = roomy(base.Users), roomy(base.Groups)
		before, users, groups := copyOfAcl(a), slices.Clone(a.Users[:cap(a.Users)]), slices.Clone(a.Groups[:cap(a.Groups)])
		text := impl.AclBytes(a)
		if !sameAcl(a, before) || !slices.Equal(users, a.Users[:cap(a.Users)]) || !slices.Equal(groups, a.Groups[:cap(a.Groups)]) {
			t.Fatalf("AclBytes changed %+v to %+v", before, a)
		}
		one, two := impl.AclFrom(text).Acl, impl.AclFrom(text).Acl
		scribble(one.Users)
		if !slices.Equal(one.Groups, two.Groups) || !sameAcl(two, base) {
			t.Fatalf("%q: two lists of answers share memory", text)
		}
		scribble(two.Groups)
		if !slices.Equal(two.Users, base.Users) || !sameAcl(impl.AclFrom(text).Acl, base) {
			t.Fatalf("%q: two lists of answers share memory", text)
		}
	}
	for _, base := range rightLists() {
		l := append(make([]impl.Ace, 0, 80), base...)
		room := copyOfList(l[:cap(l)])
		text := impl.NfsBytes(l)
		if !slices.Equal(room, l[:cap(l)]) {
			t.Fatalf("NfsBytes changed %+v to %+v", room, l)
		}
		scribbleAces(impl.NfsFrom(text).List)
		wantNfsFrom(t, text, impl.NfsOut{List: base})
	}
}

// Whatever it is given, each call answers: with numbers at the ends of int64, lists of very many, and texts of any bytes.
func TestListsAsBytesAlwaysAnswer(t *testing.T) {
	ends := []int64{math.MinInt64, math.MinInt64 + 1, -1, 0, 1, 5, 7, 8, 255, 256, 65535, math.MaxInt64 - 1, math.MaxInt64}
	for _, n := range ends {
		for _, m := range ends {
			a := impl.Acl{User: n, Group: m, Other: n, Mask: m, Masked: true, Users: named(n, m), Groups: named(m, n)}
			if got := impl.AclBytes(a); impl.AclRight(a) != (got != "") {
				t.Errorf("AclBytes(%+v): got %q", a, got)
			}
			for _, x := range []impl.Ace{allow(n, m, n, m), deny(4, n, 3, m), allow(1, 0, m, n), allow(5, m, n, 1)} {
				if got := impl.NfsBytes([]impl.Ace{x}); impl.AceRight(x) != (got != "") {
					t.Errorf("NfsBytes(%+v): got %q", x, got)
				}
			}
		}
	}
	s := steps(13)
	const likely = "\x00\x01\x02\x04\x05\x06\x07\x08\x10\x20\x27\x7f\x80\xff\xff\xff"
	for range 20000 {
		text := make([]byte, s.next(40))
		for i := range text {
			text[i] = likely[s.next(len(likely))]
		}
		for _, bytes := range []string{string(text), "\x02" + string(text), sealed(string(text)), sealed("\x02" + string(text))} {
			if got := impl.AclFrom(bytes); got.Code != impl.OK && !reflect.DeepEqual(got, impl.AclOut{Code: got.Code}) {
				t.Errorf("AclFrom(%q): got %+v", bytes, got)
			}
			wantAclFrom(t, bytes, ownAclFrom(bytes))
			wantNfsFrom(t, bytes, ownNfsFrom(bytes))
		}
	}
}
