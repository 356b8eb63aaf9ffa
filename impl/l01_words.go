package impl

import (
	"iter"
	"math/bits"
)

const MaxText = 4000

const (
	wordBytes = 4
	maxWord   = 1<<32 - 1
	maxWords  = MaxText / wordBytes
	hexDigits = "0123456789abcdef"
)

func isWord(n int64) bool {
	return n >= 0 && n <= maxWord
}

func areWords(l []int64) bool {
	for _, n := range l {
		if !isWord(n) {
			return false
		}
	}
	return true
}

func Rotl(n int64, by int64) int64 {
	if !isWord(n) || by < 0 || by > 31 {
		return -1
	}
	return int64(bits.RotateLeft32(uint32(n), int(by)))
}

// leWords hands on the words of s with their places; bytes behind the last whole word are left out.
func leWords(s string) iter.Seq2[int, uint32] {
	return func(yield func(int, uint32) bool) {
		for place := range len(s) / wordBytes {
			if !yield(place, leWordAt(s, place)) {
				return
			}
		}
	}
}

func leWordAt(s string, place int) uint32 {
	var word uint32
	for i := range wordBytes {
		word |= uint32(s[place*wordBytes+i]) << (8 * i)
	}
	return word
}

func appendLe(out []byte, word uint32) []byte {
	for i := range wordBytes {
		out = append(out, byte(word>>(8*i)))
	}
	return out
}

func LoadLe(s string) []int64 {
	if len(s)%wordBytes != 0 || len(s) > MaxText {
		return nil
	}
	out := make([]int64, 0, len(s)/wordBytes)
	for _, word := range leWords(s) {
		out = append(out, int64(word))
	}
	return out
}

func StoreLe(l []int64) string {
	if len(l) > maxWords || !areWords(l) {
		return ""
	}
	out := make([]byte, 0, len(l)*wordBytes)
	for _, n := range l {
		out = appendLe(out, uint32(n))
	}
	return string(out)
}

func Hex(s string) string {
	if len(s) > MaxText {
		return ""
	}
	out := make([]byte, 0, 2*len(s))
	for i := range len(s) {
		out = append(out, hexDigits[s[i]>>4], hexDigits[s[i]&15])
	}
	return string(out)
}

// digitValue answers -1 for a byte that is no digit; the digits A .. F are none, so that a text has one spelling only.
func digitValue(c byte) int {
	switch {
	case c >= '0' && c <= '9':
		return int(c - '0')
	case c >= 'a' && c <= 'f':
		return int(c-'a') + 10
	}
	return -1
}

func Unhex(s string) (string, bool) {
	if len(s) > 2*MaxText || len(s)%2 != 0 {
		return "", false
	}
	out := make([]byte, 0, len(s)/2)
	for i := 0; i < len(s); i += 2 {
		high, low := digitValue(s[i]), digitValue(s[i+1])
		if high < 0 || low < 0 {
			return "", false
		}
		out = append(out, byte(high<<4|low))
	}
	return string(out), true
}

func Xor(a string, b string) string {
	if len(a) != len(b) || len(a) > MaxText {
		return ""
	}
	out := make([]byte, 0, len(a))
	for i := range len(a) {
		out = append(out, a[i]^b[i])
	}
	return string(out)
}
