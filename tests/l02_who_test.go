package tests

import (
	"math"
	"reflect"
	"strconv"
	"strings"
	"testing"

	"loop.example/g00622/impl"
)

func wantCred(t *testing.T, text string, want impl.CredOut) {
	t.Helper()
	got := impl.CredRead(text)
	if len(got.Cred.Groups) == 0 && len(want.Cred.Groups) == 0 {
		got.Cred.Groups, want.Cred.Groups = nil, nil
	}
	if !reflect.DeepEqual(got, want) {
		t.Errorf("CredRead(%.60q): got %+v, want %+v", text, got, want)
	}
}

func wantReads(t *testing.T, name string, read func(string) impl.NumOut, text string, want impl.NumOut) {
	t.Helper()
	if got := read(text); got != want {
		t.Errorf("%s(%.60q): got %+v, want %+v", name, text, got, want)
	}
}

// rightCreds are those of each count of groups, with and without Root, with ids at both ends.
func rightCreds() []impl.Cred {
	var out []impl.Cred
	groups := []int64{0, 1, 2, 10, 99, 100, 9998, 9999}
	for count := range impl.MaxGroups + 1 {
		for _, id := range []int64{0, 1, 9, 10, 100, 1000, 9999} {
			list := append([]int64{}, groups[:count]...)
			out = append(out, impl.Cred{Uid: id, Gid: 9999 - id, Groups: list}, impl.Cred{Uid: id, Gid: id, Groups: list, Root: true})
		}
	}
	return out
}

func wrongCreds() []impl.Cred {
	nine := []int64{0, 1, 2, 3, 4, 5, 6, 7, 8}
	out := []impl.Cred{{Groups: []int64{2, 1}}, {Groups: []int64{1, 1}}, {Groups: []int64{1, 2, 2}}, {Groups: []int64{1, 3, 2}}, {Groups: nine},
		{Groups: make([]int64, impl.MaxList+1)}}
	for _, id := range []int64{-1, 10000, math.MinInt64, math.MaxInt64, 1 << 32} {
		out = append(out, impl.Cred{Uid: id}, impl.Cred{Gid: id}, impl.Cred{Groups: []int64{id}}, impl.Cred{Uid: id, Gid: id, Groups: []int64{id}, Root: true})
	}
	return out
}

// credOwnText writes a cred anew, apart from the program.
func credOwnText(c impl.Cred) string {
	var groups []string
	for _, g := range c.Groups {
		groups = append(groups, strconv.Itoa(int(g)))
	}
	text := strconv.Itoa(int(c.Uid)) + ":" + strconv.Itoa(int(c.Gid)) + ":" + strings.Join(groups, ",")
	if c.Root {
		text += "*"
	}
	return text
}

// Promise 3.
func TestCredsComeBack(t *testing.T) {
	for _, c := range rightCreds() {
		if !impl.CredRight(c) {
			t.Errorf("%+v is right", c)
		}
		text := impl.CredText(c)
		if want := credOwnText(c); text != want {
			t.Errorf("CredText(%+v): got %q, want %q", c, text, want)
		}
		wantCred(t, text, impl.CredOut{Cred: c})
	}
	wantCred(t, "0:0:", impl.CredOut{})
	wantCred(t, "0:0:*", impl.CredOut{Cred: impl.Cred{Root: true}})
	wantCred(t, "9999:9999:9999*", impl.CredOut{Cred: impl.Cred{Uid: 9999, Gid: 9999, Groups: []int64{9999}, Root: true}})
	if got := impl.CredText(impl.Cred{Groups: []int64{}}); got != "0:0:" {
		t.Errorf("an empty list of groups: got %q", got)
	}
}

// Promise 3.
func TestCredsThatAreNotRight(t *testing.T) {
	for _, c := range wrongCreds() {
		if impl.CredRight(c) {
			t.Errorf("uid %d, gid %d, %d groups is not right", c.Uid, c.Gid, len(c.Groups))
		}
		if got := impl.CredText(c); got != "" {
			t.Errorf("CredText(%+v): got %q", c, got)
		}
		if len(c.Groups) <= impl.MaxGroups+1 {
			wantCred(t, credOwnText(c), impl.CredOut{Code: impl.ErrSyntax})
		}
		for _, gid := range append([]int64{c.Gid, 0, 1}, c.Groups...) {
			if impl.InGroup(c, gid) {
				t.Errorf("InGroup(%+v, %d) of a cred that is not right", c, gid)
			}
		}
	}
}

func TestTextsOfNoCred(t *testing.T) {
	texts := []string{"", "*", ":", "::", "::*", "1", "1:2", "1:2*", "1:2:3:4", "1:2:3:", ":2:", "1::", "1::3", ":2:3",
		"01:2:", "1:02:", "1:2:03", "00:0:", "1:2:00", "1:2:1,02", "1:2:3**", "1:2:**", "1:2:3*4", "1*:2:3", "*1:2:3", "1:2*:3", "1:2:*3",
		"1:2:,", "1:2:3,", "1:2:,3", "1:2:3,,4", "1:2:3,*", "1:2:3 ", " 1:2:3", "1: 2:3", "1:2:3, 4", "1:2:3\n", "1:2:3\x00", "1:2:3*\n",
		"-1:2:3", "+1:2:3", "1:-0:3", "1:2:-3", "1:2:+3", "1:2:3;4", "1:2;3", "1,2:3", "a:2:3", "1:b:3", "1:2:c", "0x1:2:3", "1_0:2:3",
		"10000:2:3", "1:10000:3", "1:2:10000", "99999999999999999999:2:3", "18446744073709551616:2:3", "1:2:4,3", "1:2:3,3", "1:2:1,3,2",
		"1:2:0,1,2,3,4,5,6,7,8", "1:2:\xff", "\xff:2:3", "١:2:3", "1:2:٣", "/:2:3", "1:2:/", "1:2:3:*", strings.Repeat("1", impl.MaxBytes),
		"1:2:" + strings.Repeat(",", impl.MaxBytes-4), strings.Repeat(":", impl.MaxBytes)}
	for _, text := range texts {
		wantCred(t, text, impl.CredOut{Code: impl.ErrSyntax})
	}
}

// Each text that is one sign away from a right one is right only if it is its own cred's text.
func TestTextsOneSignAway(t *testing.T) {
	const signs = "0159:,* -"
	for _, text := range []string{"5:7:1,9*", "0:0:", "9999:10:0,100"} {
		for i := range len(text) + 1 {
			for _, s := range signs {
				ownTextOrRefused(t, text[:i]+string(s)+text[i:])
				if i < len(text) {
					ownTextOrRefused(t, text[:i]+string(s)+text[i+1:])
					ownTextOrRefused(t, text[:i]+text[i+1:])
				}
			}
		}
	}
}

func ownTextOrRefused(t *testing.T, text string) {
	t.Helper()
	got := impl.CredRead(text)
	if got.Code == impl.OK && (credOwnText(got.Cred) != text || !impl.CredRight(got.Cred)) {
		t.Errorf("%q is read as %+v", text, got.Cred)
	}
	if got.Code != impl.OK {
		wantCred(t, text, impl.CredOut{Code: impl.ErrSyntax})
	}
}

// Promise 3.
func TestInGroup(t *testing.T) {
	for _, c := range rightCreds() {
		if !impl.InGroup(c, c.Gid) {
			t.Errorf("%+v is in its own group", c)
		}
		for _, g := range c.Groups {
			if !impl.InGroup(c, g) {
				t.Errorf("%+v is in its group %d", c, g)
			}
		}
		for _, g := range []int64{3, 50, 5000, -1, 10000, math.MinInt64, math.MaxInt64} {
			if impl.InGroup(c, g) {
				t.Errorf("%+v is not in group %d", c, g)
			}
		}
	}
	if c := (impl.Cred{Uid: 5, Gid: 7, Groups: []int64{1, 9}, Root: true}); impl.InGroup(c, 5) || impl.InGroup(c, 8) {
		t.Error("a uid is no group, and root is in no group more")
	}
}

// Promise 4.
func TestBitsComeBack(t *testing.T) {
	for bits, text := range []string{"---", "--x", "-w-", "-wx", "r--", "r-x", "rw-", "rwx"} {
		if got := impl.BitsText(int64(bits)); got != text {
			t.Errorf("BitsText(%d): got %q, want %q", bits, got, text)
		}
		wantReads(t, "BitsRead", impl.BitsRead, text, impl.NumOut{N: int64(bits)})
	}
	for _, n := range []int64{-1, 8, 9, 263, math.MinInt64, math.MaxInt64} {
		if got := impl.BitsText(n); got != "" {
			t.Errorf("BitsText(%d): got %q", n, got)
		}
	}
}

func TestTextsOfNoBits(t *testing.T) {
	for _, text := range []string{"", "r", "rw", "rwx-", "rwxr", "----", "--", "Rwx", "rWx", "rwX", "wrx", "xwr", "-r-", "--w", "x--", "rws", "rwS", "rwt",
		"rwT", "7", "007", " rw", "rw ", "rw\x00", "r\xffx", "\xff\xff\xff", "é-", "-é", "€", "—", "r-x*"} {
		wantReads(t, "BitsRead", impl.BitsRead, text, impl.NumOut{Code: impl.ErrSyntax})
	}
	for b := range 256 {
		for i := range 3 {
			text := []byte("rwx")
			text[i] = byte(b)
			if got := impl.BitsRead(string(text)); got.Code == impl.OK && b != '-' && b != int("rwx"[i]) {
				t.Errorf("BitsRead(%q): got %+v", text, got)
			}
		}
	}
}

// modeOwnText writes a mode anew, apart from the program.
func modeOwnText(mode int) string {
	text := []byte("rwxrwxrwx")
	for i := range text {
		if mode>>(8-i)&1 == 0 {
			text[i] = '-'
		}
	}
	for i, signs := range []string{"Ss", "Ss", "Tt"} {
		if at := 3*i + 2; mode&(2048>>i) != 0 && text[at] == 'x' {
			text[at] = signs[1]
		} else if mode&(2048>>i) != 0 {
			text[at] = signs[0]
		}
	}
	return string(text)
}

// Promise 4.
func TestModesComeBack(t *testing.T) {
	for mode := range 4096 {
		n := int64(mode)
		if got, want := impl.ModeText(n), modeOwnText(mode); got != want {
			t.Errorf("ModeText(%d): got %q, want %q", mode, got, want)
		}
		wantReads(t, "ModeRead", impl.ModeRead, impl.ModeText(n), impl.NumOut{N: n})
		oct := strconv.FormatInt(n, 8)
		if got, want := impl.OctText(n), strings.Repeat("0", 4-len(oct))+oct; got != want {
			t.Errorf("OctText(%d): got %q, want %q", mode, got, want)
		}
		wantReads(t, "OctRead", impl.OctRead, impl.OctText(n), impl.NumOut{N: n})
	}
	for n, want := range map[int64]string{0: "---------", 4095: "rwsrwsrwt", 0o7000: "--S--S--T", 0o4755: "rwsr-xr-x", 0o2644: "rw-r-Sr--", 0o1777: "rwxrwxrwt"} {
		if got := impl.ModeText(n); got != want {
			t.Errorf("ModeText(%o): got %q, want %q", n, got, want)
		}
	}
}

// Promise 4.
func TestNumbersThatAreNoMode(t *testing.T) {
	for _, n := range []int64{-1, -4096, 4096, 4097, 8191, math.MinInt64, math.MaxInt64} {
		if impl.ModeText(n) != "" || impl.OctText(n) != "" {
			t.Errorf("%d: got %q and %q", n, impl.ModeText(n), impl.OctText(n))
		}
	}
}

func TestTextsOfNoMode(t *testing.T) {
	for _, text := range []string{"", "r", "rwx", "rwxrwx", "rwxrwxrw", "rwxrwxrwxr", "rwxrwxrwx-", "-rwxrwxrwx", "rwtrwxrwx", "rwxrwtrwx", "rwTrwxrwx",
		"rwxrwTrwx", "rwxrwxrws", "rwxrwxrwS", "swxrwxrwx", "rsxrwxrwx", "rwxswxrwx", "rwxrwxtwx", "rwxrwxrtx", "Rwxrwxrwx", "rwXrwxrwx", "rwxrwxrwX",
		"RWXRWXRWX", "wrxrwxrwx", "0777", "rwxrwxrw ", "rwxrwxrw\x00", "rwxr\xffxrwx", "rwxréxrwx", "rwxrwé--x", "ééééx", "rwxrwxrwxrwx"} {
		wantReads(t, "ModeRead", impl.ModeRead, text, impl.NumOut{Code: impl.ErrSyntax})
	}
	for b := range 256 {
		for i := range 9 {
			text := []byte("rwxrwxrwx")
			text[i] = byte(b)
			if got := impl.ModeRead(string(text)); got.Code == impl.OK && modeOwnText(int(got.N)) != string(text) {
				t.Errorf("ModeRead(%q): got %+v", text, got)
			}
		}
	}
}

func TestTextsOfNoDigits(t *testing.T) {
	for _, text := range []string{"", "0", "7", "777", "00777", "10000", "0778", "8000", "9777", "0o77", "-777", "+777", " 777", "777 ", "07 7", "07_7", "0x1f",
		"077\n", "0/77", "077:", "\xff777", "é77", "7é7", "07é", "ab", "abcd", "٠٧"} {
		wantReads(t, "OctRead", impl.OctRead, text, impl.NumOut{Code: impl.ErrSyntax})
	}
	for b := range 256 {
		for i := range 4 {
			text := []byte("0000")
			text[i] = byte(b)
			if got := impl.OctRead(string(text)); got.Code == impl.OK && (b < '0' || b > '7') {
				t.Errorf("OctRead(%q): got %+v", text, got)
			}
		}
	}
}

func TestHas(t *testing.T) {
	rows := []struct {
		have, want int64
		is         bool
	}{
		{0, 0, true}, {65535, 0, true}, {65535, 65535, true}, {0, 65535, false}, {0, 1, false}, {1, 1, true}, {32768, 32768, true}, {32767, 32768, false},
		{7, 5, true}, {5, 7, false}, {5, 2, false}, {6, 4, true}, {65534, 1, false}, {65535, 65534, true},
		{65536, 0, false}, {65536, 65536, false}, {0, 65536, false}, {65535, 65536, false}, {65537, 1, false}, {1, 65537, false},
		{-1, 0, false}, {-1, -1, false}, {0, -1, false}, {65535, -1, false}, {-1, 65535, false}, {math.MaxInt64, 1, false}, {math.MinInt64, math.MinInt64, false},
	}
	for _, r := range rows {
		if got := impl.Has(r.have, r.want); got != r.is {
			t.Errorf("Has(%d, %d): got %v", r.have, r.want, got)
		}
	}
	for have := range int64(64) {
		for want := range int64(64) {
			if got, is := impl.Has(have, want), have|want == have; got != is {
				t.Errorf("Has(%d, %d): got %v", have, want, got)
			}
		}
	}
}

func TestTooLongTextsOfWhoAsks(t *testing.T) {
	for _, text := range []string{tooLong, strings.Repeat("0", impl.MaxBytes+1), "1:2:" + tooLong, "rwx" + tooLong} {
		wantCred(t, text, impl.CredOut{Code: impl.ErrSize})
		wantReads(t, "BitsRead", impl.BitsRead, text, impl.NumOut{Code: impl.ErrSize})
		wantReads(t, "ModeRead", impl.ModeRead, text, impl.NumOut{Code: impl.ErrSize})
		wantReads(t, "OctRead", impl.OctRead, text, impl.NumOut{Code: impl.ErrSize})
	}
	full := tooLong[:impl.MaxBytes]
	wantCred(t, full, impl.CredOut{Code: impl.ErrSyntax})
	wantReads(t, "BitsRead", impl.BitsRead, full, impl.NumOut{Code: impl.ErrSyntax})
	wantReads(t, "ModeRead", impl.ModeRead, full, impl.NumOut{Code: impl.ErrSyntax})
	wantReads(t, "OctRead", impl.OctRead, full, impl.NumOut{Code: impl.ErrSyntax})
}

func TestCredsAreNotChanged(t *testing.T) {
	groups := []int64{1, 9, 3, 4}
	c := impl.Cred{Uid: 5, Gid: 7, Groups: groups[:2]}
	impl.CredText(c)
	impl.InGroup(c, 9)
	impl.CredRight(c)
	if !reflect.DeepEqual(groups, []int64{1, 9, 3, 4}) {
		t.Errorf("the groups are changed: %v", groups)
	}
}
