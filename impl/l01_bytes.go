package impl

import (
	"errors"
	"strconv"
)

// Constants, see chapter 1.
const (
	OK        = 0
	ErrForm   = 1
	ErrSize   = 2
	ErrSyntax = 3
	ErrShort  = 4
	ErrSum    = 5
	ErrNone   = 6
	ErrThere  = 7
	ErrRange  = 8
	ErrFull   = 9
	ErrState  = 10
	ErrCarry  = 11
	ErrSchema = 12
	ErrCount  = 13
	MaxBytes  = 8000
	MaxList   = 400
	MaxTime   = 1000000
)

const (
	maxNameBytes = 20
	crcMax       = 1<<32 - 1
	crcTurn      = 0xEDB88320
	sealBytes    = 4
	// Nine bytes hold 63 bits: a byte at this shift is the tenth one.
	tenthShift = 63
)

// NumOut is a thing of chapter 2.
type NumOut struct {
	N    int64
	At   int64
	Code int64
}

// TextOut is a thing of chapter 2.
type TextOut struct {
	Text string
	At   int64
	Code int64
}

// bytesFault is why nothing can be read at a place; the faces tell its code.
type bytesFault struct {
	code int64
}

func (f bytesFault) Error() string {
	return "bytes can't be read: code " + strconv.FormatInt(f.code, 10)
}

func bytesCode(err error) int64 {
	var fault bytesFault
	if errors.As(err, &fault) {
		return fault.code
	}
	return OK
}

// joinTexts lays both texts into new memory, so that no answer shares an argument's.
func joinTexts(first string, second string) string {
	joined := make([]byte, len(first)+len(second))
	copy(joined, first)
	copy(joined[len(first):], second)
	return string(joined)
}

// foldSign lets small numbers of either sign take few bytes: 0, -1, 1, -2 .. are 0, 1, 2, 3 ..
func foldSign(n int64) uint64 {
	if n < 0 {
		return ^(uint64(n) << 1)
	}
	return uint64(n) << 1
}

func unfoldSign(u uint64) int64 {
	if u&1 == 1 {
		return ^int64(u >> 1)
	}
	return int64(u >> 1)
}

// PutNum writes a number in one to ten bytes: see chapter 2.
func PutNum(n int64) string {
	var out []byte
	u := foldSign(n)
	for u >= 128 {
		out = append(out, byte(u&127)|128)
		u >>= 7
	}
	return string(append(out, byte(u)))
}

// readNum asks for an at that is not below 0.
func readNum(text string, at int64) (int64, int64, error) {
	var u uint64
	var shift uint
	var b byte
	var code int64
more:
	if at >= int64(len(text)) {
		code = ErrShort
		goto wrong
	}
	b = text[at]
	at++
	if b < 128 || shift == tenthShift {
		goto last
	}
	u |= uint64(b&127) << shift
	shift += 7
	goto more
last:
	// A nought behind other bytes adds nothing: fewer bytes would have done.
	if shift == tenthShift && b > 1 || shift > 0 && b == 0 {
		code = ErrSyntax
		goto wrong
	}
	return unfoldSign(u | uint64(b)<<shift), at, nil
wrong:
	return 0, 0, bytesFault{code: code}
}

// readText asks for an at that is not below 0.
func readText(text string, at int64) (string, int64, error) {
	length, from, err := readNum(text, at)
	if err != nil {
		return "", 0, err
	}
	if length < 0 || length > MaxBytes {
		return "", 0, bytesFault{code: ErrSyntax}
	}
	if length > int64(len(text))-from {
		return "", 0, bytesFault{code: ErrShort}
	}
	return joinTexts(text[from:from+length], ""), from + length, nil
}

// placeCode is what both GetNum and GetText look for ahead of reading.
func placeCode(text string, at int64) int64 {
	if len(text) > MaxBytes {
		return ErrSize
	}
	if at < 0 {
		return ErrForm
	}
	return OK
}

// GetNum reads a number at a place: see chapter 2.
func GetNum(text string, at int64) NumOut {
	if code := placeCode(text, at); code != OK {
		return NumOut{Code: code}
	}
	n, next, err := readNum(text, at)
	return NumOut{N: n, At: next, Code: bytesCode(err)}
}

// PutText writes a text behind its length: see chapter 2.
func PutText(t string) string {
	if len(t) > MaxBytes {
		return ""
	}
	return joinTexts(PutNum(int64(len(t))), t)
}

// GetText reads a text at a place: see chapter 2.
func GetText(text string, at int64) TextOut {
	if code := placeCode(text, at); code != OK {
		return TextOut{Code: code}
	}
	t, next, err := readText(text, at)
	return TextOut{Text: t, At: next, Code: bytesCode(err)}
}

func isNameByte(b byte, first bool) bool {
	if b >= 'a' && b <= 'z' {
		return true
	}
	return !first && (b >= '0' && b <= '9' || b == '_')
}

// NameRight tells whether a text is a name: see chapter 1.
func NameRight(t string) bool {
	if len(t) < 1 || len(t) > maxNameBytes {
		return false
	}
	for i := 0; i < len(t); i++ {
		if !isNameByte(t[i], i == 0) {
			return false
		}
	}
	return true
}

func crcRegister(register uint32, text string) uint32 {
	for i := 0; i < len(text); i++ {
		// Shifting only brings the byte's bits down one by one, so all eight may go in at once.
		register ^= uint32(text[i])
		for range 8 {
			low := register & 1
			register >>= 1
			if low == 1 {
				register ^= crcTurn
			}
		}
	}
	return register
}

// Crc is the CRC of a text: see chapter 2.
func Crc(text string) int64 {
	// The empty text's CRC is 0, and every text stands behind the empty one.
	return CrcMore(0, text)
}

// CrcMore goes on from a text's CRC to that of both texts: see chapter 2.
func CrcMore(crc int64, text string) int64 {
	if len(text) > MaxBytes || crc < 0 || crc > crcMax {
		return 0
	}
	return int64(^crcRegister(^uint32(crc), text))
}

func crcBytes(crc int64) string {
	return string([]byte{byte(crc), byte(crc >> 8), byte(crc >> 16), byte(crc >> 24)})
}

// Seal puts a text's CRC behind it: see chapter 2.
func Seal(text string) string {
	if len(text) > MaxBytes-sealBytes {
		return ""
	}
	return joinTexts(text, crcBytes(Crc(text)))
}

// Unseal takes a text out of its seal: see chapter 2.
func Unseal(text string) TextOut {
	if len(text) > MaxBytes {
		return TextOut{Code: ErrSize}
	}
	if len(text) < sealBytes {
		return TextOut{Code: ErrShort}
	}
	body := text[:len(text)-sealBytes]
	if Seal(body) != text {
		return TextOut{Code: ErrSum}
	}
	return TextOut{Text: joinTexts(body, "")}
}
