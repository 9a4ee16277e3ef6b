package tests

import (
	"encoding/binary"
	"fmt"
	"hash/crc32"
	"math"
	"strings"
	"testing"
	"unsafe"

	"loop.example/g00622/impl"
)

// tooLong is refused by every call that takes a text, ahead of all else.
var tooLong = strings.Repeat("a", impl.MaxBytes+1)

func wantNum(t *testing.T, text string, at int64, want impl.NumOut) {
	t.Helper()
	if got := impl.GetNum(text, at); got != want {
		t.Errorf("GetNum(%.40q, %d): got %+v, want %+v", text, at, got, want)
	}
}

func shown(o impl.TextOut) string {
	return fmt.Sprintf("{Text:%.40q of %d bytes At:%d Code:%d}", o.Text, len(o.Text), o.At, o.Code)
}

func wantText(t *testing.T, text string, at int64, want impl.TextOut) {
	t.Helper()
	if got := impl.GetText(text, at); got != want {
		t.Errorf("GetText(%.40q, %d): got %s, want %s", text, at, shown(got), shown(want))
	}
}

func wantUnseal(t *testing.T, text string, want impl.TextOut) {
	t.Helper()
	if got := impl.Unseal(text); got != want {
		t.Errorf("Unseal(%.40q): got %s, want %s", text, shown(got), shown(want))
	}
}

// edgeNumbers are those where one byte more is needed, those beside them, and the ends of int64.
func edgeNumbers() []int64 {
	out := []int64{0, 1, -1, 2, -2, 1000, -1000, math.MaxInt64, math.MaxInt64 - 1, math.MinInt64, math.MinInt64 + 1}
	for bits := 6; bits < 63; bits += 7 {
		for d := int64(-2); d <= 2; d++ {
			out = append(out, 1<<bits+d, -1<<bits+d)
		}
	}
	for bits := range 63 {
		out = append(out, 1<<bits, -1<<bits)
	}
	return out
}

func TestCodesAndLimits(t *testing.T) {
	codes := []int64{impl.OK, impl.ErrForm, impl.ErrSize, impl.ErrSyntax, impl.ErrShort, impl.ErrSum, impl.ErrNone, impl.ErrThere, impl.ErrRange,
		impl.ErrFull, impl.ErrState, impl.ErrAccess, impl.ErrNotDir, impl.ErrIsDir, impl.ErrLoop, impl.ErrEmpty, impl.ErrOwner}
	for i, c := range codes {
		if c != int64(i) {
			t.Errorf("code %d: got %d", i, c)
		}
	}
	if impl.MaxBytes != 8000 || impl.MaxList != 400 || impl.MaxTime != 1000000 {
		t.Error("the limits are not those of chapter 1")
	}
}

func TestPutNumBytes(t *testing.T) {
	rows := []struct {
		n    int64
		want string
	}{
		{0, "\x00"}, {-1, "\x01"}, {1, "\x02"}, {-2, "\x03"},
		{63, "\x7e"}, {-64, "\x7f"}, {64, "\x80\x01"}, {-65, "\x81\x01"},
		{8191, "\xfe\x7f"}, {-8192, "\xff\x7f"}, {8192, "\x80\x80\x01"},
		{math.MaxInt64, "\xfe\xff\xff\xff\xff\xff\xff\xff\xff\x01"},
		{math.MinInt64, "\xff\xff\xff\xff\xff\xff\xff\xff\xff\x01"},
	}
	for _, r := range rows {
		if got := impl.PutNum(r.n); got != r.want {
			t.Errorf("PutNum(%d): got %q, want %q", r.n, got, r.want)
		}
	}
	for _, n := range edgeNumbers() {
		if got, want := impl.PutNum(n), string(binary.AppendVarint(nil, n)); got != want {
			t.Errorf("PutNum(%d): got %q, want %q", n, got, want)
		}
	}
}

// Promise 1.
func TestNumbersComeBack(t *testing.T) {
	for _, n := range edgeNumbers() {
		b := impl.PutNum(n)
		wantNum(t, b, 0, impl.NumOut{N: n, At: int64(len(b))})
		wantNum(t, "\xff\x80"+b+"\x80\x00", 2, impl.NumOut{N: n, At: int64(len(b)) + 2})
		for cut := range len(b) {
			wantNum(t, b[:cut], 0, impl.NumOut{Code: impl.ErrShort})
		}
	}
}

// Promise 1.
func TestTextsComeBack(t *testing.T) {
	for _, size := range []int{0, 1, 2, 63, 64, 65, 8191 - 200, impl.MaxBytes - 2} {
		text := strings.Repeat("\x00\xffab", size/4+1)[:size]
		b := impl.PutText(text)
		if want := impl.PutNum(int64(size)) + text; b != want {
			t.Errorf("PutText of %d bytes is not its length and it", size)
		}
		wantText(t, b, 0, impl.TextOut{Text: text, At: int64(len(b))})
		wantText(t, b[:len(b)-1], 0, impl.TextOut{Code: impl.ErrShort})
	}
	wantText(t, "\x01"+impl.PutText("ab")+"cd", 1, impl.TextOut{Text: "ab", At: 4})
	wantText(t, "ab"+impl.PutText("")+"cd", 2, impl.TextOut{At: 3})
	wantText(t, "\x00", 0, impl.TextOut{At: 1})
}

func TestSeveralStandBehindEachOther(t *testing.T) {
	all := impl.PutNum(-300) + impl.PutText("one") + impl.PutText("") + impl.PutNum(7)
	first := impl.GetNum(all, 0)
	second := impl.GetText(all, first.At)
	third := impl.GetText(all, second.At)
	last := impl.GetNum(all, third.At)
	if first.N != -300 || second.Text != "one" || third.Text != "" || last.N != 7 || last.At != int64(len(all)) {
		t.Errorf("got %+v, %+v, %+v, %+v", first, second, third, last)
	}
}

// A text of MaxBytes can be put, but its bytes are too many to be handed in again.
func TestTextsAtTheLimit(t *testing.T) {
	full := strings.Repeat("z", impl.MaxBytes)
	if got, want := impl.PutText(full), "\x80\x7d"+full; got != want {
		t.Errorf("PutText of MaxBytes bytes: got %d bytes, want %d", len(got), len(want))
	}
	wantText(t, impl.PutText(full), 0, impl.TextOut{Code: impl.ErrSize})
	fits := strings.Repeat("z", impl.MaxBytes-2)
	wantText(t, impl.PutText(fits), 0, impl.TextOut{Text: fits, At: impl.MaxBytes})
	wantText(t, impl.PutText(fits[1:]), 0, impl.TextOut{Text: fits[1:], At: impl.MaxBytes - 1})
	wantNum(t, full[1:]+"\x02", impl.MaxBytes-1, impl.NumOut{N: 1, At: impl.MaxBytes})
}

func TestPlacesOutside(t *testing.T) {
	rows := []struct {
		at   int64
		code int64
	}{
		{-1, impl.ErrForm}, {math.MinInt64, impl.ErrForm},
		{2, impl.ErrShort}, {3, impl.ErrShort}, {1 << 32, impl.ErrShort}, {math.MaxInt64, impl.ErrShort},
	}
	for _, r := range rows {
		wantNum(t, "\x00\x00", r.at, impl.NumOut{Code: r.code})
		wantText(t, "\x00\x00", r.at, impl.TextOut{Code: r.code})
	}
	for _, at := range []int64{0, 1, math.MaxInt64} {
		wantNum(t, "", at, impl.NumOut{Code: impl.ErrShort})
		wantText(t, "", at, impl.TextOut{Code: impl.ErrShort})
	}
	wantNum(t, "", -1, impl.NumOut{Code: impl.ErrForm})
	wantText(t, "", -1, impl.TextOut{Code: impl.ErrForm})
	wantText(t, "\x80\x00", -1, impl.TextOut{Code: impl.ErrForm})
}

func TestBytesThatAreNoNumber(t *testing.T) {
	high := strings.Repeat("\xff", 9)
	noughts := strings.Repeat("\x80", 9)
	rows := []struct {
		text string
		code int64
	}{
		{"\x80", impl.ErrShort}, {"\xff\xff", impl.ErrShort}, {high, impl.ErrShort}, {noughts, impl.ErrShort},
		{high + "\x02", impl.ErrSyntax}, {high + "\x7f", impl.ErrSyntax}, {noughts + "\x02", impl.ErrSyntax},
		{high + "\x80", impl.ErrSyntax}, {high + "\x81", impl.ErrSyntax}, {high + "\xff", impl.ErrSyntax},
		{high + "\x80\x00", impl.ErrSyntax}, {high + "\x81\x01", impl.ErrSyntax}, {high + "\xff\xff\xff", impl.ErrSyntax},
		{high + "\x00", impl.ErrSyntax}, {noughts + "\x00", impl.ErrSyntax},
		{"\x80\x00", impl.ErrSyntax}, {"\xff\x00", impl.ErrSyntax}, {"\x81\x80\x00", impl.ErrSyntax}, {noughts[1:] + "\x00", impl.ErrSyntax},
	}
	for _, r := range rows {
		wantNum(t, r.text, 0, impl.NumOut{Code: r.code})
		wantNum(t, "\x00"+r.text, 1, impl.NumOut{Code: r.code})
		wantText(t, r.text, 0, impl.TextOut{Code: r.code})
	}
	wantNum(t, noughts+"\x01", 0, impl.NumOut{N: 1 << 62, At: 10})
	wantNum(t, high+"\x01", 0, impl.NumOut{N: math.MinInt64, At: 10})
}

func TestLengthsThatAreNone(t *testing.T) {
	for _, n := range []int64{-1, -2, impl.MaxBytes + 1, 1 << 32, math.MaxInt64, math.MinInt64} {
		wantText(t, impl.PutNum(n), 0, impl.TextOut{Code: impl.ErrSyntax})
		wantText(t, impl.PutNum(n)+"abc", 0, impl.TextOut{Code: impl.ErrSyntax})
	}
	for _, n := range []int64{4, 64, impl.MaxBytes - 1, impl.MaxBytes} {
		wantText(t, impl.PutNum(n)+"abc", 0, impl.TextOut{Code: impl.ErrShort})
	}
	wantText(t, impl.PutNum(impl.MaxBytes)+strings.Repeat("a", impl.MaxBytes-2), 0, impl.TextOut{Code: impl.ErrShort})
}

func TestTooLongTextsAheadOfAllElse(t *testing.T) {
	for _, at := range []int64{-1, 0, impl.MaxBytes, impl.MaxBytes + 1, math.MinInt64, math.MaxInt64} {
		wantNum(t, tooLong, at, impl.NumOut{Code: impl.ErrSize})
		wantText(t, tooLong, at, impl.TextOut{Code: impl.ErrSize})
		wantText(t, "\x02a"+tooLong[2:], at, impl.TextOut{Code: impl.ErrSize})
	}
	if impl.PutText(tooLong) != "" || impl.Seal(tooLong) != "" || impl.NameRight(tooLong) {
		t.Error("PutText, Seal or NameRight takes a text that is too long")
	}
	for _, crc := range []int64{0, 1, -1, 1 << 32} {
		if got := impl.CrcMore(crc, tooLong); got != 0 {
			t.Errorf("CrcMore(%d) of a text that is too long: got %d", crc, got)
		}
	}
	if got := impl.Crc(tooLong); got != 0 {
		t.Errorf("Crc of a text that is too long: got %d", got)
	}
	wantUnseal(t, tooLong, impl.TextOut{Code: impl.ErrSize})
	wantUnseal(t, sealed(tooLong[4:]), impl.TextOut{Code: impl.ErrSize})
}

func TestNames(t *testing.T) {
	right := []string{"a", "z", "a0", "z9", "a_", "a__b", "abcdefghijklmnopqrst", "z_0123456789_abcdefg"}
	for _, n := range right {
		if !impl.NameRight(n) {
			t.Errorf("%q is a name", n)
		}
	}
	wrong := []string{"", "_", "_a", "0", "9a", "A", "aB", "aZ", "a-b", "a b", " a", "a ", "a\x00", "a.", "a/", "a:", "a`", "a{", "`a", "{a",
		"a^", "ä", "a\xff", "abcdefghijklmnopqrstu"}
	for _, n := range wrong {
		if impl.NameRight(n) {
			t.Errorf("%q is no name", n)
		}
	}
}

func TestEachByteInNames(t *testing.T) {
	const first = "abcdefghijklmnopqrstuvwxyz"
	for b := range 256 {
		one := string([]byte{byte(b)})
		if got, want := impl.NameRight(one), strings.Contains(first, one); got != want {
			t.Errorf("%q: got %v", one, got)
		}
		if got, want := impl.NameRight("q"+one), strings.Contains(first+"0123456789_", one); got != want {
			t.Errorf("%q: got %v", "q"+one, got)
		}
	}
}

// sealed is a Seal of any length, by another's CRC.
func sealed(text string) string {
	return string(binary.LittleEndian.AppendUint32([]byte(text), crc32.ChecksumIEEE([]byte(text))))
}

func someTexts() []string {
	out := []string{"", "a", "\x00", "\xff", "\x00\x00\x00\x00", "123456789", strings.Repeat("\xff", 40), "The quick brown fox\n"}
	for b := range 256 {
		out = append(out, string([]byte{byte(b), 7, byte(b)}))
	}
	return append(out, strings.Repeat("xyz", 1000), strings.Repeat("q", impl.MaxBytes))
}

// Promise 2.
func TestCrc(t *testing.T) {
	if got := impl.Crc("123456789"); got != 0xCBF43926 {
		t.Errorf("got %x", got)
	}
	for _, text := range someTexts() {
		if got, want := impl.Crc(text), int64(crc32.ChecksumIEEE([]byte(text))); got != want {
			t.Errorf("Crc(%.40q): got %d, want %d", text, got, want)
		}
	}
}

// Promise 2.
func TestCrcGoesOn(t *testing.T) {
	text := "abc\x00\xff, and what stands behind it"
	for cut := range len(text) + 1 {
		if got, want := impl.CrcMore(impl.Crc(text[:cut]), text[cut:]), impl.Crc(text); got != want {
			t.Errorf("cut at %d: got %d, want %d", cut, got, want)
		}
	}
	full := strings.Repeat("m", impl.MaxBytes)
	if got, want := impl.CrcMore(impl.Crc(full), full), int64(crc32.ChecksumIEEE([]byte(full+full))); got != want {
		t.Errorf("both of MaxBytes bytes: got %d, want %d", got, want)
	}
	if got := impl.CrcMore(0, "abc"); got != impl.Crc("abc") {
		t.Errorf("behind the empty text: got %d", got)
	}
}

func TestCrcOutside(t *testing.T) {
	for _, crc := range []int64{-1, 1 << 32, 1<<32 + 1, math.MinInt64, math.MaxInt64} {
		for _, text := range []string{"", "abc"} {
			if got := impl.CrcMore(crc, text); got != 0 {
				t.Errorf("CrcMore(%d, %q): got %d, want 0", crc, text, got)
			}
		}
	}
	for _, crc := range []int64{0, 1, 1 << 31, 1<<32 - 1} {
		if got := impl.CrcMore(crc, ""); got != crc {
			t.Errorf("CrcMore(%d) of the empty text: got %d", crc, got)
		}
		if got, want := impl.CrcMore(crc, "abc"), int64(crc32.Update(uint32(crc), crc32.IEEETable, []byte("abc"))); got != want {
			t.Errorf("CrcMore(%d): got %d, want %d", crc, got, want)
		}
	}
}

// Promise 2.
func TestSealedTextsComeBack(t *testing.T) {
	for _, text := range someTexts() {
		if len(text) > impl.MaxBytes-4 {
			continue
		}
		if got, want := impl.Seal(text), sealed(text); got != want {
			t.Errorf("Seal(%.40q): got %q, want %q", text, got, want)
		}
		wantUnseal(t, impl.Seal(text), impl.TextOut{Text: text})
	}
	if got := impl.Seal("123456789"); got != "123456789\x26\x39\xf4\xcb" {
		t.Errorf("got %q", got)
	}
	if got := impl.Seal(""); got != "\x00\x00\x00\x00" {
		t.Errorf("got %q", got)
	}
}

func TestSealAtTheLimit(t *testing.T) {
	fits := strings.Repeat("s", impl.MaxBytes-4)
	if got := impl.Seal(fits); got != sealed(fits) || len(got) != impl.MaxBytes {
		t.Errorf("got %d bytes", len(got))
	}
	wantUnseal(t, impl.Seal(fits), impl.TextOut{Text: fits})
	for more := 1; more <= 5; more++ {
		text := fits + strings.Repeat("s", more)
		if got := impl.Seal(text); got != "" {
			t.Errorf("%d bytes more: got %d bytes", more, len(got))
		}
		wantUnseal(t, sealed(text), impl.TextOut{Code: impl.ErrSize})
	}
}

// Promise 2.
func TestOneByteTurnedIsRefused(t *testing.T) {
	for _, text := range []string{"", "a", "\x00\x00", "a sealed text"} {
		whole := impl.Seal(text)
		for i := range len(whole) {
			for turn := 1; turn < 256; turn++ {
				b := []byte(whole)
				b[i] ^= byte(turn)
				wantUnseal(t, string(b), impl.TextOut{Code: impl.ErrSum})
			}
		}
	}
}

func TestUnsealOfNoSeal(t *testing.T) {
	for _, text := range []string{"", "\x00", "\x00\x00", "\x00\x00\x00", "abc"} {
		wantUnseal(t, text, impl.TextOut{Code: impl.ErrShort})
	}
	wantUnseal(t, "\x00\x00\x00\x00", impl.TextOut{})
	whole := impl.Seal("abcdef")
	for _, text := range []string{"abcd", "\x00\x00\x00\x01", whole[1:], whole[:len(whole)-1], whole + "\x00", strings.Repeat("a", impl.MaxBytes)} {
		wantUnseal(t, text, impl.TextOut{Code: impl.ErrSum})
	}
}

func within(part, whole string) bool {
	p := uintptr(unsafe.Pointer(unsafe.StringData(part)))
	w := uintptr(unsafe.Pointer(unsafe.StringData(whole)))
	return p >= w && p < w+uintptr(len(whole))
}

func TestAnswersAreNewMemory(t *testing.T) {
	long := strings.Repeat("new memory ", 20)
	put, seal := impl.PutText(long), impl.Seal(long)
	if within(put[2:], long) || within(seal, long) {
		t.Error("what is put together lies within the argument")
	}
	if within(impl.GetText(put, 0).Text, put) || within(impl.Unseal(seal).Text, seal) {
		t.Error("what is read lies within the argument")
	}
}
