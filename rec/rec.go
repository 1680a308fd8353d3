// Package rec has records one behind the other: see ../../shared/DOC.md and doc/02-rec.md.
package rec

import (
	"strings"

	"missive/api"
	"missive/vari"
)

const (
	sumStart   = 0xffffffff
	sumSize    = 4  // bytes of a sum in a frame
	maxHead    = 10 // bytes of any number, right or not: what vari.Get has to look at
	bitsOfHalf = 4
	lowHalf    = 1<<bitsOfHalf - 1
)

// halves has what four bits at once, each with its shift, come to: bit by bit a sum takes four times as long.
var halves = [1 << bitsOfHalf]uint32{
	0x00000000, 0x1db71064, 0x3b6e20c8, 0x26d930ac,
	0x76dc4190, 0x6b6b51f4, 0x4db26158, 0x5005713c,
	0xedb88320, 0xf00f9344, 0xd6d6a3e8, 0xcb61b38c,
	0x9b64c2b0, 0x86d3d2d4, 0xa00ae278, 0xbdbdf21c,
}

// Sum (2.1) is of one text what frames ask of two: the bytes of a length, and those of a record.
func Sum(s string) uint32 {
	return sumOf(s)
}

// Frame (2.1) is Join of one record, that both refuse and write alike.
func Frame(s string) (string, api.Errno) {
	return Join(s)
}

// Join (2.1) tells nothing of what it has framed already, if one is too long.
func Join(l ...string) (string, api.Errno) {
	var b strings.Builder
	for _, s := range l {
		if len(s) > api.MaxData {
			return "", api.ErrLong
		}
		writeFrame(&b, s)
	}
	return b.String(), api.OK
}

// Next (2.2) copies both texts: an answer shares no memory with s.
func Next(s string) (string, string, api.Errno) {
	from, to, errno := find(s)
	if errno != api.OK {
		return "", "", errno
	}
	return strings.Clone(s[from:to]), strings.Clone(s[to:]), api.OK
}

// All (2.2) does not go on by Next, that would copy all the rest for each record.
func All(s string) ([]string, int) {
	var l []string
	at := 0
	for {
		from, to, errno := find(s[at:])
		if errno != api.OK {
			return l, at
		}
		l = append(l, strings.Clone(s[at+from:at+to]))
		at += to
	}
}

// sumOf tells the sum of pieces as if they were one, so that none has to be copied for it.
func sumOf(pieces ...string) uint32 {
	sum := uint32(sumStart)
	for _, s := range pieces {
		for i := range len(s) {
			sum ^= uint32(s[i])
			sum = sum>>bitsOfHalf ^ halves[sum&lowHalf]
			sum = sum>>bitsOfHalf ^ halves[sum&lowHalf]
		}
	}
	return ^sum
}

// writeFrame leaves it to its caller to see that s is not too long.
func writeFrame(b *strings.Builder, s string) {
	head := vari.Put(uint64(len(s)))
	sum := sumOf(head, s)
	b.WriteString(head)
	for shift := 24; shift >= 0; shift -= 8 {
		b.WriteByte(byte(sum >> shift))
	}
	b.WriteString(s)
}

// find tells from where to where in s the first record is, and leaves copying to its callers.
func find(s string) (int, int, api.Errno) {
	length, _, errno := vari.Get(s[:min(len(s), maxHead)]) // Get copies what is behind the number: it is handed little
	if errno != api.OK {
		return 0, 0, errno
	}
	if length > api.MaxData {
		return 0, 0, api.ErrLong
	}
	head := vari.Size(length)
	from := head + sumSize
	to := from + int(length)
	if len(s) < to {
		return 0, 0, api.ErrShort
	}
	if readSum(s[head:from]) != sumOf(s[:head], s[from:to]) {
		return 0, 0, api.ErrSum
	}
	return from, to, api.OK
}

// readSum is the way back of the four bytes that writeFrame puts.
func readSum(s string) uint32 {
	var sum uint32
	for i := range len(s) {
		sum = sum<<8 | uint32(s[i])
	}
	return sum
}
