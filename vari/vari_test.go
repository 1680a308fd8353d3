package vari_test

import (
	"encoding/binary"
	"math"
	"math/rand"
	"runtime"
	"slices"
	"strings"
	"testing"
	"unsafe"

	"missive/api"
	"missive/vari"
)

// The signatures that the chapter lists.
var (
	_ func(uint64) string                        = vari.Put
	_ func(string) (uint64, string, api.Errno)   = vari.Get
	_ func(int64) uint64                         = vari.Even
	_ func(uint64) int64                         = vari.Whole
	_ func(...uint32) (string, api.Errno)        = vari.List
	_ func(string) ([]uint32, string, api.Errno) = vari.Read
	_ func(uint64) int                           = vari.Size
)

const nine = "\xff\xff\xff\xff\xff\xff\xff\xff\xff"

// edges tells the numbers about each power of two, rising.
func edges() []uint64 {
	l := []uint64{0}
	for shift := range 64 {
		n := uint64(1) << shift
		l = append(l, n-1, n, n+1)
	}
	l = append(l, math.MaxUint64-1, math.MaxUint64)
	slices.Sort(l)
	return slices.Compact(l)
}

// texts tells texts of any bytes: all short ones, and long ones by a rule.
func texts() []string {
	l := []string{""}
	for a := range 256 {
		l = append(l, string([]byte{byte(a)}))
		for b := range 256 {
			l = append(l, string([]byte{byte(a), byte(b)}))
		}
	}
	r := rand.New(rand.NewSource(1))
	for range 20000 {
		b := make([]byte, 3+r.Intn(20))
		for i := range b {
			b[i] = byte(r.Intn(256)) | byte(r.Intn(2)<<7)
		}
		if r.Intn(2) == 0 {
			b[0] = byte(r.Intn(8))
		}
		l = append(l, string(b))
	}
	return l
}

// shares tells whether two texts have a byte of memory together.
func shares(a, b string) bool {
	if a == "" || b == "" {
		return false
	}
	x, y := uintptr(unsafe.Pointer(unsafe.StringData(a))), uintptr(unsafe.Pointer(unsafe.StringData(b)))
	return x < y+uintptr(len(b)) && y < x+uintptr(len(a))
}

// rising tells many numbers that rise, the last one 4294967295.
func rising(many int) []uint32 {
	l := make([]uint32, many)
	for i := range l {
		l[i] = math.MaxUint32 - uint32(many-1-i)
	}
	return l
}

// 1.1
func TestPutTellsBytes(t *testing.T) {
	for _, c := range []struct {
		n uint64
		s string
	}{
		{0, "\x00"},
		{1, "\x01"},
		{127, "\x7f"},
		{128, "\x80\x01"},
		{300, "\xac\x02"},
		{16383, "\xff\x7f"},
		{16384, "\x80\x80\x01"},
		{math.MaxUint32, "\xff\xff\xff\xff\x0f"},
		{1<<63 - 1, "\xff\xff\xff\xff\xff\xff\xff\xff\x7f"},
		{1 << 63, "\x80\x80\x80\x80\x80\x80\x80\x80\x80\x01"},
		{math.MaxUint64, nine + "\x01"},
	} {
		if s := vari.Put(c.n); s != c.s {
			t.Errorf("Put(%d) = %x, not %x", c.n, s, c.s)
		}
		if n := vari.Size(c.n); n != len(c.s) {
			t.Errorf("Size(%d) = %d, not %d", c.n, n, len(c.s))
		}
	}
	for _, n := range edges() {
		if s, want := vari.Put(n), string(binary.AppendUvarint(nil, n)); s != want || vari.Size(n) != len(want) {
			t.Errorf("Put(%d) = %x of %d bytes, not %x", n, s, vari.Size(n), want)
		}
	}
}

// 1.1
func TestGetTellsNumberAndRest(t *testing.T) {
	for _, c := range []struct {
		s    string
		n    uint64
		rest string
	}{
		{"\x00", 0, ""},
		{"\x00\x00", 0, "\x00"},
		{"\x01\x80", 1, "\x80"},
		{"\xac\x02x", 300, "x"},
		{"\x80\x01\x80\x00", 128, "\x80\x00"},
		{nine + "\x01", math.MaxUint64, ""},
		{nine + "\x01\xff", math.MaxUint64, "\xff"},
		{"\x80\x80\x80\x80\x80\x80\x80\x80\x80\x01yz", 1 << 63, "yz"},
	} {
		n, rest, errno := vari.Get(c.s)
		if n != c.n || rest != c.rest || errno != api.OK {
			t.Errorf("Get(%x) = %d, %x, %d, not %d, %x", c.s, n, rest, errno, c.n, c.rest)
		}
	}
}

// 1.1, P2
func TestGetRefuses(t *testing.T) {
	for _, c := range []struct {
		s     string
		errno api.Errno
	}{
		{"", api.ErrShort},
		{"\x80", api.ErrShort},
		{"\x80\x80", api.ErrShort},
		{nine, api.ErrShort},
		{nine + "\x02", api.ErrCode},
		{nine + "\x7f", api.ErrCode},
		{nine + "\x80", api.ErrCode},
		{nine + "\x81\x00", api.ErrCode},
		{nine + nine, api.ErrCode},
		{nine + "\x00", api.ErrCode},
		{"\x80\x00", api.ErrCode},
		{"\xff\x00x", api.ErrCode},
		{"\x80\x80\x00", api.ErrCode},
	} {
		n, rest, errno := vari.Get(c.s)
		if n != 0 || rest != "" || errno != c.errno {
			t.Errorf("Get(%x) = %d, %x, %d, not the error %d alone", c.s, n, rest, errno, c.errno)
		}
	}
}

// 1.2
func TestEvenAndWhole(t *testing.T) {
	for _, c := range []struct {
		whole int64
		even  uint64
	}{
		{0, 0},
		{-1, 1},
		{1, 2},
		{-2, 3},
		{2, 4},
		{-719162, 1438323},
		{math.MaxInt64, math.MaxUint64 - 1},
		{math.MinInt64 + 1, math.MaxUint64 - 2},
		{math.MinInt64, math.MaxUint64},
	} {
		if n := vari.Even(c.whole); n != c.even {
			t.Errorf("Even(%d) = %d, not %d", c.whole, n, c.even)
		}
		if n := vari.Whole(c.even); n != c.whole {
			t.Errorf("Whole(%d) = %d, not %d", c.even, n, c.whole)
		}
	}
	for _, n := range edges() {
		if vari.Even(vari.Whole(n)) != n || vari.Whole(vari.Even(int64(n))) != int64(n) {
			t.Errorf("%d is not told there and back", n)
		}
	}
}

// 1.3
func TestListAndRead(t *testing.T) {
	for _, c := range []struct {
		l []uint32
		s string
	}{
		{nil, "\x00"},
		{[]uint32{0}, "\x01\x00"},
		{[]uint32{0, 1}, "\x02\x00\x00"},
		{[]uint32{5, 6, 9}, "\x03\x05\x00\x02"},
		{[]uint32{1, 130, 131}, "\x03\x01\x80\x01\x00"},
		{[]uint32{math.MaxUint32}, "\x01\xff\xff\xff\xff\x0f"},
		{[]uint32{0, math.MaxUint32}, "\x02\x00\xfe\xff\xff\xff\x0f"},
		{[]uint32{math.MaxUint32 - 1, math.MaxUint32}, "\x02\xfe\xff\xff\xff\x0f\x00"},
	} {
		if s, errno := vari.List(c.l...); s != c.s || errno != api.OK {
			t.Errorf("List(%d) = %x, %d, not %x", c.l, s, errno, c.s)
		}
		for _, behind := range []string{"", "y", "\x80"} {
			l, rest, errno := vari.Read(c.s + behind)
			if !slices.Equal(l, c.l) || rest != behind || errno != api.OK {
				t.Errorf("Read(%x) = %d, %x, %d, not %d, %x", c.s+behind, l, rest, errno, c.l, behind)
			}
		}
	}
	if s, errno := vari.List([]uint32{}...); s != "\x00" || errno != api.OK {
		t.Errorf("an empty list is %x, %d, not as one that is nil", s, errno)
	}
}

// 1.3
func TestLongestList(t *testing.T) {
	l := rising(api.MaxList)
	s, errno := vari.List(l...)
	if errno != api.OK {
		t.Fatalf("MaxList numbers: %d", errno)
	}
	if got, rest, errno := vari.Read(s + "z"); !slices.Equal(got, l) || rest != "z" || errno != api.OK {
		t.Errorf("MaxList numbers are not read: %d of them, %x, %d", len(got), rest, errno)
	}
	if s, errno := vari.List(rising(api.MaxList + 1)...); s != "" || errno != api.ErrRange {
		t.Errorf("one more than MaxList: %d bytes, %d", len(s), errno)
	}
	if s, errno := vari.List(make([]uint32, api.MaxList+1)...); s != "" || errno != api.ErrRange {
		t.Errorf("too many that do not rise: %d bytes, %d", len(s), errno)
	}
}

// 1.3, P2
func TestListRefusesOrder(t *testing.T) {
	for _, l := range [][]uint32{
		{0, 0},
		{5, 5},
		{6, 5},
		{1, 2, 3, 3},
		{1, 9, 2},
		{math.MaxUint32, math.MaxUint32},
		{math.MaxUint32, 0},
		make([]uint32, api.MaxList),
	} {
		if s, errno := vari.List(l...); s != "" || errno != api.ErrOrder {
			t.Errorf("List of %d numbers = %x, %d, not the error alone", len(l), s, errno)
		}
	}
}

// 1.3, P2
func TestReadRefuses(t *testing.T) {
	last := vari.Put(math.MaxUint32)
	for _, c := range []struct {
		s     string
		errno api.Errno
	}{
		{"", api.ErrShort},
		{"\x80", api.ErrShort},
		{"\x80\x00", api.ErrCode},
		{nine + "\x02", api.ErrCode},
		{vari.Put(api.MaxList + 1), api.ErrRange},
		{vari.Put(api.MaxList+1) + "\x80\x00", api.ErrRange},
		{vari.Put(math.MaxUint64), api.ErrRange},
		{vari.Put(api.MaxList), api.ErrShort},
		{"\x01", api.ErrShort},
		{"\x02\x05", api.ErrShort},
		{"\x02\x05\x80", api.ErrShort},
		{"\x02\x05\x80\x00", api.ErrCode},
		{"\x03\x80\x00", api.ErrCode},
		{"\x01" + vari.Put(math.MaxUint32+1), api.ErrCode},
		{"\x01" + vari.Put(math.MaxUint64), api.ErrCode},
		{"\x02" + last + "\x00", api.ErrCode},
		{"\x02\x00" + last, api.ErrCode},
		{"\x02\x05" + vari.Put(math.MaxUint64), api.ErrCode},
		{"\x02\x05" + vari.Put(math.MaxUint64-5), api.ErrCode},
		{"\x03" + last + "\x00", api.ErrCode},
		{"\x02" + last, api.ErrShort},
	} {
		l, rest, errno := vari.Read(c.s)
		if len(l) != 0 || rest != "" || errno != c.errno {
			t.Errorf("Read(%x) = %d, %x, %d, not the error %d alone", c.s, l, rest, errno, c.errno)
		}
	}
}

// 1.4
func TestAnswersAreNewMemory(t *testing.T) {
	s := "\x03\x05\x00\x02" + strings.Repeat("y", 100)
	if _, rest, _ := vari.Get(s); shares(rest, s) {
		t.Error("what Get tells is behind a number shares its memory")
	}
	l, rest, _ := vari.Read(s)
	if shares(rest, s) {
		t.Error("what Read tells is behind a list shares its memory")
	}
	l[0] = 77
	if again, _, _ := vari.Read(s); !slices.Equal(again, []uint32{5, 6, 9}) {
		t.Errorf("a list that was changed is read as %d", again)
	}
	given := []uint32{5, 6, 9, 10}
	first, _ := vari.List(given[:3]...)
	again, _ := vari.List(given[:3]...)
	if shares(first, again) || shares(vari.Put(300), vari.Put(300)) || shares(vari.Put(0), vari.Put(0)) {
		t.Error("two answers share their memory")
	}
	given[0] = 1
	if first != "\x03\x05\x00\x02" || !slices.Equal(given, []uint32{1, 6, 9, 10}) {
		t.Errorf("what was handed in is kept, or changed: %x, %d", first, given)
	}
}

// 1.5
func TestNumbersThereAndBack(t *testing.T) {
	for _, want := range edges() {
		n, rest, errno := vari.Get(vari.Put(want) + "rest")
		if n != want || rest != "rest" || errno != api.OK {
			t.Errorf("%d is put, and got as %d, %x, %d", want, n, rest, errno)
		}
	}
	for _, s := range texts() {
		if n, rest, errno := vari.Get(s); errno == api.OK && vari.Put(n)+rest != s {
			t.Errorf("%x is got as %d, and %x", s, n, rest)
		}
	}
}

// 1.5
func TestListsThereAndBack(t *testing.T) {
	r := rand.New(rand.NewSource(2))
	for range 1000 {
		var want []uint32
		for range r.Intn(50) {
			want = append(want, r.Uint32()>>r.Intn(32))
		}
		slices.Sort(want)
		want = slices.Compact(want)
		s, errno := vari.List(want...)
		if errno != api.OK {
			t.Fatalf("List(%d): %d", want, errno)
		}
		if l, rest, errno := vari.Read(s + "\xff"); !slices.Equal(l, want) || rest != "\xff" || errno != api.OK {
			t.Fatalf("%d is told, and read as %d, %x, %d", want, l, rest, errno)
		}
		for cut := range len(s) {
			if l, rest, errno := vari.Read(s[:cut]); len(l) != 0 || rest != "" || errno != api.ErrShort {
				t.Fatalf("Read(%x) = %d, %x, %d, not ErrShort", s[:cut], l, rest, errno)
			}
		}
	}
	for _, s := range texts() {
		l, rest, errno := vari.Read(s)
		if errno != api.OK {
			continue
		}
		if back, errno := vari.List(l...); back+rest != s || errno != api.OK {
			t.Errorf("%x is read as %d, %x, and told as %x, %d", s, l, rest, back, errno)
		}
	}
}

// 1.6
func TestGreaterNumbersHaveNoFewerBytes(t *testing.T) {
	l := edges()
	for i := 1; i < len(l); i++ {
		if len(vari.Put(l[i])) < len(vari.Put(l[i-1])) || vari.Size(l[i]) < vari.Size(l[i-1]) {
			t.Errorf("%d has fewer bytes than %d", l[i], l[i-1])
		}
	}
}

// P1 to P4
func TestAnyBytesAreAnswered(t *testing.T) {
	ahead := runtime.NumGoroutine()
	for _, s := range texts() {
		n, rest, errno := vari.Get(s)
		if errno != api.OK && (n != 0 || rest != "" || errno != api.ErrShort && errno != api.ErrCode) {
			t.Fatalf("Get(%x) = %d, %x, %d", s, n, rest, errno)
		}
		l, behind, errno := vari.Read(s)
		if errno != api.OK && (len(l) != 0 || behind != "" || errno != api.ErrShort && errno != api.ErrCode && errno != api.ErrRange) {
			t.Fatalf("Read(%x) = %d, %x, %d", s, l, behind, errno)
		}
		again, twice, errnoAgain := vari.Read(s)
		if !slices.Equal(l, again) || behind != twice || errno != errnoAgain {
			t.Fatalf("Read(%x) is answered in two ways", s)
		}
	}
	if behind := runtime.NumGoroutine(); behind > ahead { // fewer, if that of an earlier test was just ending
		t.Errorf("%d goroutines ahead, %d behind", ahead, behind)
	}
}
