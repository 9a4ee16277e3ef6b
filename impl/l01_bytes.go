package impl

import (
	"errors"
	"strconv"
)

// Constants, see chapter 1.
const (
	OK        = 0
	ErrForm   = 1
	ErrSize   = 2
	ErrSyntax = 3
	ErrShort  = 4
	ErrSum    = 5
	ErrNone   = 6
	ErrThere  = 7
	ErrRange  = 8
	ErrFull   = 9
	ErrState  = 10
	ErrAccess = 11
	ErrNotDir = 12
	ErrIsDir  = 13
	ErrLoop   = 14
	ErrEmpty  = 15
	ErrOwner  = 16
	MaxBytes  = 8000
	MaxList   = 400
	MaxTime   = 1000000
)

const (
	maxName     = 20
	maxNumBytes = 10
	sealBytes   = 4
	crcTurn     = 0xEDB88320
	maxCrc      = 1<<32 - 1
)

// NumOut is a thing of chapter 2.
type NumOut struct {
	N    int64
	At   int64
	Code int64
}

// TextOut is a thing of chapter 2.
type TextOut struct {
	Text string
	At   int64
	Code int64
}

// byteFault carries the code out of the readers, so that they can be built upon each other by plain errors.
type byteFault struct {
	code int64
}

func (f byteFault) Error() string {
	return "bytes: code " + strconv.FormatInt(f.code, 10)
}

// codeOf is OK of no error: an answer can be filled in one go, as the readers hand back zeros beside an error.
func codeOf(err error) int64 {
	var f byteFault
	if errors.As(err, &f) {
		return f.code
	}
	return OK
}

// join copies also a single part, so that no answer shares memory with an argument.
func join(parts ...string) string {
	size := 0
	for _, p := range parts {
		size += len(p)
	}
	out := make([]byte, size)
	at := 0
	for _, p := range parts {
		at += copy(out[at:], p)
	}
	return string(out)
}

// PutNum: see chapter 2.
func PutNum(n int64) string {
	// The shift by 63 is all ones below 0: that turns 2n to -2n-1 without leaving 64 bits.
	u := uint64(n)<<1 ^ uint64(n>>63)
	out := make([]byte, 0, maxNumBytes)
	for u >= 128 {
		out = append(out, byte(u&127)|128)
		u >>= 7
	}
	return string(append(out, byte(u)))
}

// GetNum: see chapter 2.
func GetNum(text string, at int64) NumOut {
	if len(text) > MaxBytes {
		return NumOut{Code: ErrSize}
	}
	n, next, err := readNum(text, at)
	return NumOut{N: n, At: next, Code: codeOf(err)}
}

// readNum looks at the tenth byte ahead of whether it is the last one: one above 1 is wrong even where the text ends.
func readNum(text string, at int64) (int64, int64, error) {
	var u uint64
	var b byte
	var count uint
	code := int64(ErrForm)
	if at < 0 {
		goto wrong
	}
more:
	code = ErrShort
	if at >= int64(len(text)) {
		goto wrong
	}
	b = text[at]
	code = ErrSyntax
	if count == maxNumBytes-1 && b > 1 {
		goto wrong
	}
	u |= uint64(b&127) << (7 * count)
	at++
	count++
	if b < 128 {
		goto last
	}
	goto more
last:
	if b == 0 && count > 1 {
		goto wrong
	}
	return int64(u>>1) ^ -int64(u&1), at, nil
wrong:
	return 0, 0, byteFault{code}
}

// PutText: see chapter 2.
func PutText(t string) string {
	if len(t) > MaxBytes {
		return ""
	}
	return join(PutNum(int64(len(t))), t)
}

// GetText: see chapter 2.
func GetText(text string, at int64) TextOut {
	if len(text) > MaxBytes {
		return TextOut{Code: ErrSize}
	}
	t, next, err := readText(text, at)
	return TextOut{Text: t, At: next, Code: codeOf(err)}
}

func readText(text string, at int64) (string, int64, error) {
	size, next, err := readNum(text, at)
	if err != nil {
		return "", 0, err
	}
	if size < 0 || size > MaxBytes {
		return "", 0, byteFault{ErrSyntax}
	}
	if size > int64(len(text))-next {
		return "", 0, byteFault{ErrShort}
	}
	return join(text[next : next+size]), next + size, nil
}

// NameRight: see chapter 2.
func NameRight(t string) bool {
	if len(t) < 1 || len(t) > maxName || !isSmall(t[0]) {
		return false
	}
	for i := range len(t) {
		if !isSmall(t[i]) && !isDigit(t[i]) && t[i] != '_' {
			return false
		}
	}
	return true
}

func isSmall(b byte) bool {
	return b >= 'a' && b <= 'z'
}

func isDigit(b byte) bool {
	return b >= '0' && b <= '9'
}

// Crc: see chapter 2.
func Crc(text string) int64 {
	// The CRC of the empty text is 0: a text's own CRC goes on from there.
	return CrcMore(0, text)
}

// CrcMore: see chapter 2.
func CrcMore(crc int64, text string) int64 {
	if len(text) > MaxBytes || crc < 0 || crc > maxCrc {
		return 0
	}
	register := ^uint32(crc)
	for i := range len(text) {
		register = crcByte(register, text[i])
	}
	return int64(^register)
}

// crcByte puts the whole byte in at once: each of its bits meets the lowest place just when its turn has come.
func crcByte(register uint32, b byte) uint32 {
	register ^= uint32(b)
	for range 8 {
		low := register & 1
		register >>= 1
		if low == 1 {
			register ^= crcTurn
		}
	}
	return register
}

// Seal: see chapter 2.
func Seal(text string) string {
	if len(text) > MaxBytes-sealBytes {
		return ""
	}
	return join(text, sumOf(text))
}

func sumOf(text string) string {
	crc := Crc(text)
	out := make([]byte, sealBytes)
	for i := range out {
		out[i] = byte(crc >> (8 * i))
	}
	return string(out)
}

// Unseal: see chapter 2.
func Unseal(text string) TextOut {
	if len(text) > MaxBytes {
		return TextOut{Code: ErrSize}
	}
	if len(text) < sealBytes {
		return TextOut{Code: ErrShort}
	}
	body := text[:len(text)-sealBytes]
	if Seal(body) != text {
		return TextOut{Code: ErrSum}
	}
	return TextOut{Text: join(body)}
}
