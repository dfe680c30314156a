// Package digest computes digests of texts: see shared/doc/01-digest.md.
package digest

import (
	"strconv"
	"strings"
)

const (
	blockSize  = 8    // bytes of a block
	digestSize = 16   // digits of a digest
	maxChain   = 1000 // a longer chain counts as one of this length
	digits     = "0123456789abcdef"
)

// The numbers of the specification of a digest. Both factors are odd, so that
// mixing can be undone: different numbers stay different.
const (
	startState   uint64 = 7640891576956012809
	firstFactor  uint64 = 11400714819323198485
	secondFactor uint64 = 15074714826142052245
)

// padded is a text followed by as many bytes 0 as its last block needs.
type padded string

// blocks returns the number of blocks. At least one byte 0 is appended, so
// a text whose length is a multiple of 8 has a block of zeros at its end.
func (p padded) blocks() int {
	return len(p)/blockSize + 1
}

// block returns the bytes of block i.
func (p padded) block(i int) [blockSize]byte {
	var b [blockSize]byte
	copy(b[:], p[i*blockSize:])
	return b
}

// number returns the number of a block, whose first byte is the most
// significant one.
func number(block [blockSize]byte) uint64 {
	x := uint64(0)
	for i := range blockSize {
		x = x<<8 | uint64(block[i])
	}
	return x
}

// mix returns the mixed number.
func mix(x uint64) uint64 {
	x ^= x >> 31
	x *= firstFactor
	x ^= x >> 27
	x *= secondFactor
	x ^= x >> 33
	return x
}

// hex returns a number as a digest, with leading zeros.
func hex(x uint64) string {
	var d [digestSize]byte
	for i := range digestSize {
		d[digestSize-1-i] = digits[x&15]
		x >>= 4
	}
	return string(d[:])
}

// joined returns the joined text of a list. The lengths tell where elements
// end, so that different lists have different joined texts.
func joined(l []string) string {
	var b strings.Builder
	for _, element := range l {
		b.WriteString(strconv.Itoa(len(element)))
		b.WriteByte(':')
		b.WriteString(element)
	}
	return b.String()
}

// Sum returns the digest of a text: 16 hexadecimal digits.
func Sum(text string) string {
	p := padded(text)
	take := p.block
	state := startState ^ uint64(len(text))
	for i := range p.blocks() {
		state = mix(state ^ number(take(i)))
	}
	return hex(state)
}

// Is reports whether a text is a digest.
func Is(text string) bool {
	if len(text) != digestSize {
		return false
	}
	for i := range digestSize {
		if strings.IndexByte(digits, text[i]) < 0 {
			return false
		}
	}
	return true
}

// List returns the digest of the joined text of a list.
func List(l []string) string {
	return Sum(joined(l))
}

// Chain returns the text after n digests: the text itself if n is less than 1,
// and after 1000 digests if n is greater than that.
func Chain(text string, n int) string {
	for range min(n, maxChain) {
		text = Sum(text)
	}
	return text
}
