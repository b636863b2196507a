package impl

import (
	"errors"
	"strconv"
)

// Constants, see chapter 1.
const (
	OK        = 0
	ErrForm   = 1
	ErrSize   = 2
	ErrSyntax = 3
	ErrShort  = 4
	ErrSum    = 5
	ErrNone   = 6
	ErrThere  = 7
	ErrRange  = 8
	ErrFull   = 9
	ErrState  = 10
	MaxBytes  = 8000
	MaxList   = 400
	MaxTime   = 1000000
)

const (
	maxName   = 20
	lastShift = 63 // where the one bit that a tenth byte may hold belongs
	crcTurn   = 0xEDB88320
	crcMost   = 1<<32 - 1
	sumBytes  = 4
)

// NumOut is a thing of chapter 2.
type NumOut struct {
	N    int64
	At   int64
	Code int64
}

// TextOut is a thing of chapter 2.
type TextOut struct {
	Text string
	At   int64
	Code int64
}

// badBytes is what is wrong with bytes that are read; its code is all that a
// caller is told of it.
type badBytes struct {
	code int64
}

func (b badBytes) Error() string {
	return "code " + strconv.FormatInt(b.code, 10)
}

// badPart names what was being read, so that each layer can add to a fault
// without hiding the code of the one below it.
type badPart struct {
	part  string
	cause error
}

func (b badPart) Error() string {
	return b.part + ": " + b.cause.Error()
}

func (b badPart) Unwrap() error {
	return b.cause
}

// codeOf looks through all layers, as the code stands in the innermost one.
func codeOf(err error) int64 {
	var bad badBytes
	if errors.As(err, &bad) {
		return bad.code
	}
	return OK
}

// joined is new memory even of one part, so that an answer made by it shares
// none with an argument.
func joined(parts ...string) string {
	size := 0
	for _, p := range parts {
		size += len(p)
	}
	out := make([]byte, size)
	at := 0
	for _, p := range parts {
		at += copy(out[at:], p)
	}
	return string(out)
}

// foldSign lets small numbers of either sign have few bytes.
func foldSign(n int64) uint64 {
	if n < 0 {
		// All bits turned of 2n is -2n less 1, without leaving 64 bits.
		return ^(uint64(n) << 1)
	}
	return uint64(n) << 1
}

func unfoldSign(u uint64) int64 {
	if u&1 == 1 {
		return int64(^(u >> 1))
	}
	return int64(u >> 1)
}

// PutNum: see chapter 2.
func PutNum(n int64) string {
	u := foldSign(n)
	var out []byte
	for u > 127 {
		out = append(out, byte(u&127)|128)
		u >>= 7
	}
	return string(append(out, byte(u)))
}

// readBits reads an unsigned number from a place that is not below 0, and
// tells the place behind it.
func readBits(text string, at int64) (uint64, int64, error) {
	var u uint64
	var shift uint
	var b byte
more:
	if at >= int64(len(text)) {
		return 0, 0, badBytes{ErrShort}
	}
	b = text[at]
	at++
	if b < 128 {
		goto last
	}
	if shift == lastShift {
		goto wrong
	}
	u |= uint64(b&127) << shift
	shift += 7
	goto more
last:
	// A last byte of 0 behind others adds nothing: fewer would have done.
	if shift == lastShift && b > 1 || shift > 0 && b == 0 {
		goto wrong
	}
	return u | uint64(b)<<shift, at, nil
wrong:
	return 0, 0, badBytes{ErrSyntax}
}

func readNum(text string, at int64) (int64, int64, error) {
	if len(text) > MaxBytes {
		return 0, 0, badBytes{ErrSize}
	}
	if at < 0 {
		return 0, 0, badBytes{ErrForm}
	}
	u, next, err := readBits(text, at)
	if err != nil {
		return 0, 0, badPart{"number", err}
	}
	return unfoldSign(u), next, nil
}

// GetNum: see chapter 2.
func GetNum(text string, at int64) NumOut {
	n, next, err := readNum(text, at)
	if err != nil {
		return NumOut{Code: codeOf(err)}
	}
	return NumOut{N: n, At: next}
}

// PutText: see chapter 2.
func PutText(t string) string {
	if len(t) > MaxBytes {
		return ""
	}
	return joined(PutNum(int64(len(t))), t)
}

func readText(text string, at int64) (string, int64, error) {
	size, from, err := readNum(text, at)
	if err != nil {
		return "", 0, badPart{"length", err}
	}
	if size < 0 || size > MaxBytes {
		return "", 0, badPart{"length", badBytes{ErrSyntax}}
	}
	if size > int64(len(text))-from {
		return "", 0, badPart{"text", badBytes{ErrShort}}
	}
	return joined(text[from : from+size]), from + size, nil
}

// GetText: see chapter 2.
func GetText(text string, at int64) TextOut {
	t, next, err := readText(text, at)
	if err != nil {
		return TextOut{Code: codeOf(err)}
	}
	return TextOut{Text: t, At: next}
}

func isLetter(b byte) bool {
	return b >= 'a' && b <= 'z'
}

func isDigit(b byte) bool {
	return b >= '0' && b <= '9'
}

// NameRight: see chapter 2.
func NameRight(t string) bool {
	if len(t) < 1 || len(t) > maxName || !isLetter(t[0]) {
		return false
	}
	for i := range len(t) {
		if !isLetter(t[i]) && !isDigit(t[i]) && t[i] != '_' {
			return false
		}
	}
	return true
}

// crcOver goes on with a register over a text. A byte's bits meet the register
// at once: none of them reaches its lowest place ahead of its own turn.
func crcOver(register uint32, text string) uint32 {
	for i := range len(text) {
		register ^= uint32(text[i])
		for range 8 {
			low := register & 1
			register >>= 1
			if low == 1 {
				register ^= crcTurn
			}
		}
	}
	return register
}

// Crc: see chapter 2.
func Crc(text string) int64 {
	// 0 is the CRC of the empty text, so this is the CRC of text behind nothing.
	return CrcMore(0, text)
}

// CrcMore: see chapter 2.
func CrcMore(crc int64, text string) int64 {
	if len(text) > MaxBytes || crc < 0 || crc > crcMost {
		return 0
	}
	return int64(^crcOver(^uint32(crc), text))
}

func crcText(crc int64) string {
	return string([]byte{byte(crc), byte(crc >> 8), byte(crc >> 16), byte(crc >> 24)})
}

// Seal: see chapter 2.
func Seal(text string) string {
	if len(text) > MaxBytes-sumBytes {
		return ""
	}
	return joined(text, crcText(Crc(text)))
}

func unsealed(text string) (string, error) {
	if len(text) > MaxBytes {
		return "", badBytes{ErrSize}
	}
	if len(text) < sumBytes {
		return "", badBytes{ErrShort}
	}
	body := text[:len(text)-sumBytes]
	if Seal(body) != text {
		return "", badPart{"seal", badBytes{ErrSum}}
	}
	return joined(body), nil
}

// Unseal: see chapter 2.
func Unseal(text string) TextOut {
	body, err := unsealed(text)
	if err != nil {
		return TextOut{Code: codeOf(err)}
	}
	return TextOut{Text: body}
}
