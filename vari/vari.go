// Package vari has numbers as few bytes, and lists that rise: see ../../shared/DOC.md and doc/01-vari.md.
package vari

import (
	"math"
	"math/bits"
	"strings"

	"missive/api"
)

const (
	bitsOfByte = 7               // bits of a number that a byte carries
	goesOn     = 1 << bitsOfByte // marks a byte that is not the last one
	maxSize    = 10              // bytes of a number, at most
	maxTenth   = 1               // ten times seven bits are more than 64: the tenth byte has one of them
)

// Put (1.1) writes to a builder: a text made of one byte would be memory that all such texts share.
func Put(n uint64) string {
	var b strings.Builder
	write(&b, n)
	return b.String()
}

// Size (1.1) is also how far Get has read: a number has its bytes in one way alone.
func Size(n uint64) int {
	return max(1, (bits.Len64(n)+bitsOfByte-1)/bitsOfByte)
}

// Get (1.1) copies what is behind the number: an answer shares no memory with s.
func Get(s string) (uint64, string, api.Errno) {
	n, size, errno := scan(s)
	if errno != api.OK {
		return 0, "", errno
	}
	return n, strings.Clone(s[size:]), api.OK
}

// Even (1.2) makes numbers about 0 small, that few bytes will do for them.
func Even(n int64) uint64 {
	twice := uint64(n) << 1
	if n < 0 {
		return ^twice // -2n - 1, without leaving what 64 bits hold
	}
	return twice
}

// Whole (1.2) is Even's way back.
func Whole(n uint64) int64 {
	half := int64(n >> 1)
	if n&1 != 0 {
		return ^half
	}
	return half
}

// List (1.3) tells gaps, for these are smaller than the numbers.
func List(l ...uint32) (string, api.Errno) {
	if len(l) > api.MaxList {
		return "", api.ErrRange
	}
	var b strings.Builder
	write(&b, uint64(len(l)))
	var least uint64 // the least number that rises
	for _, n := range l {
		if uint64(n) < least {
			return "", api.ErrOrder
		}
		write(&b, uint64(n)-least)
		least = uint64(n) + 1
	}
	return b.String(), api.OK
}

// Read (1.3) is List's way back; it makes no room ahead for a count that may be a lie.
func Read(s string) ([]uint32, string, api.Errno) {
	count, at, errno := scan(s)
	if errno != api.OK {
		return nil, "", errno
	}
	if count > api.MaxList {
		return nil, "", api.ErrRange
	}
	var l []uint32
	var least uint64 // the least number that rises
	for range count {
		gap, size, errno := scan(s[at:])
		if errno != api.OK {
			return nil, "", errno
		}
		if gap > math.MaxUint32 || least+gap > math.MaxUint32 { // the first part keeps the sum from wrapping
			return nil, "", api.ErrCode
		}
		l = append(l, uint32(least+gap))
		least += gap + 1
		at += size
	}
	return l, strings.Clone(s[at:]), api.OK
}

// write is what Put and List share: a list is put together without a text for each number.
func write(b *strings.Builder, n uint64) {
	for n >= goesOn {
		b.WriteByte(byte(n) | goesOn)
		n >>= bitsOfByte
	}
	b.WriteByte(byte(n))
}

// scan tells how many bytes the number has instead of copying what is behind it, so that a list is read in one go.
func scan(s string) (uint64, int, api.Errno) {
	var n uint64
	var at int
	var b byte
next:
	if at == len(s) {
		return 0, 0, api.ErrShort
	}
	b = s[at]
	if at == maxSize-1 && b > maxTenth {
		goto wrong
	}
	n |= uint64(b&(goesOn-1)) << (bitsOfByte * at)
	at++
	if b >= goesOn {
		goto next
	}
	if b == 0 && at > 1 {
		goto wrong
	}
	return n, at, api.OK
wrong:
	return 0, 0, api.ErrCode
}
