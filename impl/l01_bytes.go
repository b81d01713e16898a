package impl

import (
	"errors"
	"math"
	"strconv"
)

// Constants, see chapter 1.
const (
	OK        = 0
	ErrForm   = 1
	ErrSize   = 2
	ErrSyntax = 3
	ErrShort  = 4
	ErrSum    = 5
	ErrNone   = 6
	ErrThere  = 7
	ErrRange  = 8
	ErrFull   = 9
	ErrState  = 10
	ErrDir    = 11
	ErrFile   = 12
	ErrBusy   = 13
	MaxBytes  = 8000
	MaxList   = 400
	MaxTime   = 1000000
)

const (
	maxNumBytes  = 10
	maxNameBytes = 20
	sumBytes     = 4
	crcPattern   = 0xEDB88320
)

// NumOut is a thing of chapter 2.
type NumOut struct {
	N    int64
	At   int64
	Code int64
}

// TextOut is a thing of chapter 2.
type TextOut struct {
	Text string
	At   int64
	Code int64
}

// byteFault says why bytes can't be read.
type byteFault struct {
	code int64
}

func (f byteFault) Error() string {
	return "bytes: code " + strconv.FormatInt(f.code, 10)
}

// byteCode is the code of a fault, or OK if there is none.
func byteCode(err error) int64 {
	var fault byteFault
	if errors.As(err, &fault) {
		return fault.code
	}
	return OK
}

// joined is new memory even of one text: no answer shares any with an argument.
func joined(texts ...string) string {
	size := 0
	for _, text := range texts {
		size += len(text)
	}
	all := make([]byte, size)
	at := 0
	for _, text := range texts {
		at += copy(all[at:], text)
	}
	return string(all)
}

// foldSign lets small numbers below 0 be small too, so that they need few bytes.
func foldSign(n int64) uint64 {
	if n < 0 {
		return ^(uint64(n) << 1)
	}
	return uint64(n) << 1
}

func unfoldSign(u uint64) int64 {
	half := int64(u >> 1)
	if u&1 == 1 {
		return ^half
	}
	return half
}

// readNum reads the number at that place, and tells the place behind it.
func readNum(text string, at int64) (int64, int64, error) {
	var folded uint64
	var part byte
	place, count := at, 0
	code := int64(ErrForm)
	if at < 0 {
		goto wrong
	}
more:
	if place >= int64(len(text)) {
		code = ErrShort
		goto wrong
	}
	part = text[place]
	folded |= uint64(part&127) << (7 * count)
	place++
	count++
	if part < 128 || count == maxNumBytes {
		goto last
	}
	goto more
last:
	// Nine bytes hold 63 of the 64 bits, so the tenth has one left to tell; and a last byte of 0
	// behind others tells nothing, so fewer bytes would do.
	if count == maxNumBytes && part > 1 || count > 1 && part == 0 {
		code = ErrSyntax
		goto wrong
	}
	return unfoldSign(folded), place, nil
wrong:
	return 0, 0, byteFault{code: code}
}

// readText reads the text at that place, and tells the place behind it.
func readText(text string, at int64) (string, int64, error) {
	size, start, err := readNum(text, at)
	if err != nil {
		return "", 0, err
	}
	if size < 0 || size > MaxBytes {
		return "", 0, byteFault{code: ErrSyntax}
	}
	if size > int64(len(text))-start {
		return "", 0, byteFault{code: ErrShort}
	}
	return joined(text[start : start+size]), start + size, nil
}

// byteReader reads numbers and texts one behind the other; from its first fault on it reads nothing.
type byteReader struct {
	text  string
	at    int64
	fault error
}

func (r *byteReader) num() int64 {
	if r.fault != nil {
		return 0
	}
	n, next, err := readNum(r.text, r.at)
	r.at, r.fault = next, err
	return n
}

func (r *byteReader) str() string {
	if r.fault != nil {
		return ""
	}
	t, next, err := readText(r.text, r.at)
	r.at, r.fault = next, err
	return t
}

// atEnd: was all of the text read, without a fault?
func (r *byteReader) atEnd() bool {
	return r.fault == nil && r.at == int64(len(r.text))
}

// PutNum: see chapter 2.
func PutNum(n int64) string {
	var all [maxNumBytes]byte
	count := 0
	rest := foldSign(n)
	for rest >= 128 {
		all[count] = byte(rest&127) + 128
		rest >>= 7
		count++
	}
	all[count] = byte(rest)
	return string(all[:count+1])
}

// GetNum: see chapter 2.
func GetNum(text string, at int64) NumOut {
	if len(text) > MaxBytes {
		return NumOut{Code: ErrSize}
	}
	n, next, err := readNum(text, at)
	return NumOut{N: n, At: next, Code: byteCode(err)}
}

// PutText: see chapter 2.
func PutText(t string) string {
	if len(t) > MaxBytes {
		return ""
	}
	return joined(PutNum(int64(len(t))), t)
}

// GetText: see chapter 2.
func GetText(text string, at int64) TextOut {
	if len(text) > MaxBytes {
		return TextOut{Code: ErrSize}
	}
	t, next, err := readText(text, at)
	return TextOut{Text: t, At: next, Code: byteCode(err)}
}

func isLetter(b byte) bool {
	return 'a' <= b && b <= 'z'
}

func isDigit(b byte) bool {
	return '0' <= b && b <= '9'
}

// NameRight: see chapter 2.
func NameRight(t string) bool {
	if len(t) < 1 || len(t) > maxNameBytes || !isLetter(t[0]) {
		return false
	}
	for place := range len(t) {
		b := t[place]
		if !isLetter(b) && !isDigit(b) && b != '_' {
			return false
		}
	}
	return true
}

// crcStep takes one byte into the register.
func crcStep(register uint32, b byte) uint32 {
	for bit := range 8 {
		odd := (register ^ uint32(b>>bit)) & 1
		register >>= 1
		if odd == 1 {
			register ^= crcPattern
		}
	}
	return register
}

// Crc: see chapter 2.
func Crc(text string) int64 {
	return CrcMore(0, text)
}

// CrcMore: see chapter 2.
func CrcMore(crc int64, text string) int64 {
	if len(text) > MaxBytes || crc < 0 || crc > math.MaxUint32 {
		return 0
	}
	register := ^uint32(crc)
	for place := range len(text) {
		register = crcStep(register, text[place])
	}
	return int64(^register)
}

// sumOf is the CRC of a text in four bytes, the lowest first.
func sumOf(text string) string {
	crc := Crc(text)
	var all [sumBytes]byte
	for place := range all {
		all[place] = byte(crc >> (8 * place))
	}
	return string(all[:])
}

// Seal: see chapter 2.
func Seal(text string) string {
	if len(text) > MaxBytes-sumBytes {
		return ""
	}
	return joined(text, sumOf(text))
}

// Unseal: see chapter 2.
func Unseal(text string) TextOut {
	if len(text) > MaxBytes {
		return TextOut{Code: ErrSize}
	}
	if len(text) < sumBytes {
		return TextOut{Code: ErrShort}
	}
	body := text[:len(text)-sumBytes]
	if text[len(body):] != sumOf(body) {
		return TextOut{Code: ErrSum}
	}
	return TextOut{Text: joined(body)}
}
