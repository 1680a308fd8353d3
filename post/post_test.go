package post_test

import (
	"math"
	"math/rand"
	"runtime"
	"slices"
	"strings"
	"testing"
	"unsafe"

	"missive/api"
	"missive/post"
	"missive/vari"
)

// The signatures that the chapter lists.
var (
	_ func([]uint32) api.Errno                       = post.Check
	_ func(...[]uint32) ([]uint32, api.Errno)        = post.And
	_ func(...[]uint32) ([]uint32, api.Errno)        = post.Or
	_ func([]uint32, []uint32) ([]uint32, api.Errno) = post.Without
	_ func([]uint32) (string, api.Errno)             = post.Pack
	_ func(string) ([]uint32, string, api.Errno)     = post.Unpack
	_ func(string) ([]api.Block, api.Errno)          = post.Blocks
	_ func(string, uint32) (bool, api.Errno)         = post.Has
)

const (
	greatest = math.MaxUint32
	nine     = "\xff\xff\xff\xff\xff\xff\xff\xff\xff"
)

// list makes a list short to write.
func list(numbers ...uint32) []uint32 { return numbers }

// rising tells many numbers, each one so much above the one ahead.
func rising(from uint32, many int, step uint32) []uint32 {
	l := make([]uint32, many)
	for i := range l {
		l[i] = from + uint32(i)*step
	}
	return l
}

// random tells a list whose numbers are often near each other.
func random(r *rand.Rand, many int) []uint32 {
	var l []uint32
	width := r.Intn(32)
	for range many {
		l = append(l, r.Uint32()>>width)
	}
	slices.Sort(l)
	return slices.Compact(l)
}

// mustPack tells the bytes of a list that is right.
func mustPack(t *testing.T, l []uint32) string {
	t.Helper()
	s, errno := post.Pack(l)
	if errno != api.OK {
		t.Fatalf("Pack of %d numbers: %d", len(l), errno)
	}
	return s
}

// numbers tells numbers' bytes, one behind the other.
func numbers(l ...uint64) string {
	s := ""
	for _, n := range l {
		s += vari.Put(n)
	}
	return s
}

// shares tells whether two texts have a byte of memory together.
func shares(a, b string) bool {
	if a == "" || b == "" {
		return false
	}
	x, y := uintptr(unsafe.Pointer(unsafe.StringData(a))), uintptr(unsafe.Pointer(unsafe.StringData(b)))
	return x < y+uintptr(len(b)) && y < x+uintptr(len(a))
}

// 13.1
func TestCheck(t *testing.T) {
	most := rising(0, api.MaxList, 1)
	long := rising(0, api.MaxList+1, 1)
	for name, c := range map[string]struct {
		l     []uint32
		errno api.Errno
	}{
		"nil":                           {nil, api.OK},
		"an empty one":                  {list(), api.OK},
		"0":                             {list(0), api.OK},
		"0 1":                           {list(0, 1), api.OK},
		"the greatest":                  {list(greatest), api.OK},
		"the first and the last":        {list(0, greatest), api.OK},
		"0 twice":                       {list(0, 0), api.ErrOrder},
		"the greatest twice":            {list(greatest, greatest), api.ErrOrder},
		"one below":                     {list(2, 1), api.ErrOrder},
		"0 behind the greatest":         {list(greatest, 0), api.ErrOrder},
		"the last below the second":     {list(1, 5, 6, 3), api.ErrOrder},
		"the last twice":                {list(1, 5, 6, 6), api.ErrOrder},
		"MaxList":                       {most, api.OK},
		"MaxList up to the greatest":    {rising(greatest-api.MaxList+1, api.MaxList, 1), api.OK},
		"one more":                      {long, api.ErrLong},
		"many more":                     {rising(0, 3*api.MaxList, 5), api.ErrLong},
		"MaxList, and the last twice":   {append(rising(0, api.MaxList-1, 1), api.MaxList-2), api.ErrOrder},
		"one more, and the last twice":  {append(slices.Clone(most), most[len(most)-1]), api.ErrOrder},
		"one more, and the first twice": {append(list(0), most...), api.ErrOrder},
		"one more, and 0 at the end":    {append(slices.Clone(most), 0), api.ErrOrder},
		"one more, and all alike":       {make([]uint32, api.MaxList+1), api.ErrOrder},
	} {
		if errno := post.Check(c.l); errno != c.errno {
			t.Errorf("Check of %s: %d, not %d", name, errno, c.errno)
		}
	}
}

// 13.1
func TestListsArePutTogether(t *testing.T) {
	for _, c := range []struct {
		l       [][]uint32
		and, or []uint32
	}{
		{nil, nil, nil},
		{[][]uint32{}, nil, nil},
		{[][]uint32{nil}, nil, nil},
		{[][]uint32{{}, nil, {}}, nil, nil},
		{[][]uint32{{0, 7, greatest}}, list(0, 7, greatest), list(0, 7, greatest)},
		{[][]uint32{{1, 2, 5}, {2, 3, 5}}, list(2, 5), list(1, 2, 3, 5)},
		{[][]uint32{{2, 3, 5}, {1, 2, 5}}, list(2, 5), list(1, 2, 3, 5)},
		{[][]uint32{{1, 2}, nil}, nil, list(1, 2)},
		{[][]uint32{nil, {1, 2}}, nil, list(1, 2)},
		{[][]uint32{{1, 2}, {3, 4}}, nil, list(1, 2, 3, 4)},
		{[][]uint32{{1, 3}, {2, 4}}, nil, list(1, 2, 3, 4)},
		{[][]uint32{{0, greatest}, {0, greatest}}, list(0, greatest), list(0, greatest)},
		{[][]uint32{{greatest}, {0}}, nil, list(0, greatest)},
		{[][]uint32{{1, 2, 3}, {2, 3, 4}, {3, 4, 5}}, list(3), list(1, 2, 3, 4, 5)},
		{[][]uint32{{1, 2, 3}, {2, 3, 4}, {3, 4, 5}, {5}}, nil, list(1, 2, 3, 4, 5)},
		{[][]uint32{{5}, {4}, {3}, {2}, {1}, {5}, {4}}, nil, list(1, 2, 3, 4, 5)},
	} {
		if and, errno := post.And(c.l...); !slices.Equal(and, c.and) || errno != api.OK {
			t.Errorf("And(%d) = %d, %d, not %d", c.l, and, errno, c.and)
		}
		if or, errno := post.Or(c.l...); !slices.Equal(or, c.or) || errno != api.OK {
			t.Errorf("Or(%d) = %d, %d, not %d", c.l, or, errno, c.or)
		}
	}
	for _, c := range []struct{ l, other, want []uint32 }{
		{nil, nil, nil},
		{nil, list(1), nil},
		{list(1, 2), nil, list(1, 2)},
		{list(1, 2), list(), list(1, 2)},
		{list(1, 2, 5), list(2, 3, 5), list(1)},
		{list(2, 3, 5), list(1, 2, 5), list(3)},
		{list(1, 2), list(1, 2), nil},
		{list(0, 1, greatest), list(1), list(0, greatest)},
		{list(0, 1, greatest), list(0, greatest), list(1)},
		{list(7), list(1, 2, 8, 9), list(7)},
	} {
		if l, errno := post.Without(c.l, c.other); !slices.Equal(l, c.want) || errno != api.OK {
			t.Errorf("Without(%d, %d) = %d, %d, not %d", c.l, c.other, l, errno, c.want)
		}
	}
}

// 13.1, 13.2, P2
func TestListsThatAreNotRightAreRefused(t *testing.T) {
	good := list(1, 2)
	twice, below, long := list(2, 2), list(1, 3, 2), rising(0, api.MaxList+1, 1)
	both := append(rising(0, api.MaxList, 1), 5)
	for _, c := range []struct {
		l     [][]uint32
		errno api.Errno
	}{
		{[][]uint32{twice}, api.ErrOrder},
		{[][]uint32{below}, api.ErrOrder},
		{[][]uint32{long}, api.ErrLong},
		{[][]uint32{both}, api.ErrOrder},
		{[][]uint32{twice, good}, api.ErrOrder},
		{[][]uint32{good, below}, api.ErrOrder},
		{[][]uint32{nil, long}, api.ErrLong},
		{[][]uint32{nil, twice}, api.ErrOrder},
		{[][]uint32{long, twice}, api.ErrLong},
		{[][]uint32{twice, long}, api.ErrOrder},
		{[][]uint32{good, long, both}, api.ErrLong},
		{[][]uint32{good, both, long}, api.ErrOrder},
		{[][]uint32{rising(0, api.MaxList, 2), rising(1, api.MaxList, 2), twice}, api.ErrOrder}, // ahead of an Or that is too long
	} {
		if l, errno := post.And(c.l...); len(l) != 0 || errno != c.errno {
			t.Errorf("And of %d lists: %d numbers, %d, not %d", len(c.l), len(l), errno, c.errno)
		}
		if l, errno := post.Or(c.l...); len(l) != 0 || errno != c.errno {
			t.Errorf("Or of %d lists: %d numbers, %d, not %d", len(c.l), len(l), errno, c.errno)
		}
		if len(c.l) == 2 {
			if l, errno := post.Without(c.l[0], c.l[1]); len(l) != 0 || errno != c.errno {
				t.Errorf("Without: %d numbers, %d, not %d", len(l), errno, c.errno)
			}
		}
		if len(c.l) == 1 {
			if s, errno := post.Pack(c.l[0]); s != "" || errno != c.errno {
				t.Errorf("Pack: %d bytes, %d, not %d", len(s), errno, c.errno)
			}
		}
	}
}

// 13.1
func TestLongestLists(t *testing.T) {
	most := rising(0, api.MaxList, 1)
	half := api.MaxList / 2
	for name, c := range map[string]struct {
		l     [][]uint32
		errno api.Errno
	}{
		"one":                    {[][]uint32{most}, api.OK},
		"the same thrice":        {[][]uint32{most, most, most}, api.OK},
		"two halves":             {[][]uint32{most[:half], most[half:]}, api.OK},
		"that crossed":           {[][]uint32{rising(0, half, 2), rising(1, half, 2), most[:9]}, api.OK},
		"one more behind":        {[][]uint32{most, {api.MaxList}}, api.ErrLong},
		"one more ahead":         {[][]uint32{{0}, rising(1, api.MaxList, 1)}, api.ErrLong},
		"one more, of three":     {[][]uint32{most[:half], {greatest}, most[half:]}, api.ErrLong},
		"one more, and again":    {[][]uint32{most, {api.MaxList}, most, most, {api.MaxList}}, api.ErrLong},
		"two that are all apart": {[][]uint32{most, rising(api.MaxList, api.MaxList, 1)}, api.ErrLong},
	} {
		l, errno := post.Or(c.l...)
		if errno != c.errno || errno == api.OK && !slices.Equal(l, most) || errno != api.OK && len(l) != 0 {
			t.Errorf("Or of %s: %d numbers, %d, not %d", name, len(l), errno, c.errno)
		}
	}
	if l, errno := post.And(most, most); !slices.Equal(l, most) || errno != api.OK {
		t.Errorf("And of MaxList numbers: %d, %d", len(l), errno)
	}
	if l, errno := post.Without(most, rising(1, api.MaxList-1, 1)); !slices.Equal(l, list(0)) || errno != api.OK {
		t.Errorf("Without of MaxList numbers: %d, %d", l, errno)
	}
}

// 13.1
func TestManyLists(t *testing.T) {
	most := rising(0, api.MaxList, 3)
	var one [][]uint32
	for i := range most {
		one = append(one, most[len(most)-1-i:len(most)-i])
	}
	if l, errno := post.Or(one...); !slices.Equal(l, most) || errno != api.OK {
		t.Errorf("Or of lists of one number each: %d, %d", len(l), errno)
	}
	if l, errno := post.Or(append(one, list(1))...); len(l) != 0 || errno != api.ErrLong {
		t.Errorf("Or of one such list more: %d, %d", len(l), errno)
	}
	same := slices.Repeat([][]uint32{most[:1000]}, 3000)
	if l, errno := post.And(same...); !slices.Equal(l, most[:1000]) || errno != api.OK {
		t.Errorf("And of the same lists: %d, %d", len(l), errno)
	}
	if l, errno := post.Or(same...); !slices.Equal(l, most[:1000]) || errno != api.OK {
		t.Errorf("Or of the same lists: %d, %d", len(l), errno)
	}
}

// packed are lists, how they are packed, and their blocks.
var packed = []struct {
	l      []uint32
	s      string
	blocks []api.Block
}{
	{nil, "\x00", nil},
	{[]uint32{}, "\x00", nil},
	{[]uint32{0}, "\x01" + "\x00\x01\x00", []api.Block{{Many: 1, At: 1}}},
	{[]uint32{5}, "\x01" + "\x05\x01\x00", []api.Block{{First: 5, Last: 5, Many: 1, At: 1}}},
	{[]uint32{greatest}, "\x01" + "\xff\xff\xff\xff\x0f\x01\x00", []api.Block{{First: greatest, Last: greatest, Many: 1, At: 1}}},
	{[]uint32{0, 1}, "\x02" + "\x00\x02\x01\x00", []api.Block{{Last: 1, Many: 2, At: 1}}},
	{[]uint32{0, greatest}, "\x02" + "\x00\x02\x05\xfe\xff\xff\xff\x0f", []api.Block{{Last: greatest, Many: 2, At: 1}}},
	{[]uint32{greatest - 1, greatest}, "\x02" + "\xfe\xff\xff\xff\x0f\x02\x01\x00", []api.Block{{First: greatest - 1, Last: greatest, Many: 2, At: 1}}},
	{[]uint32{5, 6, 300}, "\x03" + "\x05\x03\x03\x00\xa5\x02", []api.Block{{First: 5, Last: 300, Many: 3, At: 1}}},
	{rising(7, 31, 1), "\x1f" + "\x07\x1f\x1e" + strings.Repeat("\x00", 30), []api.Block{{First: 7, Last: 37, Many: 31, At: 1}}},
	{rising(7, 32, 1), "\x20" + "\x07\x20\x1f" + strings.Repeat("\x00", 31), []api.Block{{First: 7, Last: 38, Many: 32, At: 1}}},
	{rising(7, 33, 1), "\x21" + "\x07\x20\x1f" + strings.Repeat("\x00", 31) + "\x01\x01\x00", []api.Block{{First: 7, Last: 38, Many: 32, At: 1}, {First: 39, Last: 39, Many: 1, At: 35}}},
	{rising(0, 64, 3), "\x40" + "\x00\x20\x1f" + strings.Repeat("\x02", 31) + "\x03\x20\x1f" + strings.Repeat("\x02", 31), []api.Block{{Last: 93, Many: 32, At: 1}, {First: 96, Last: 189, Many: 32, At: 35}}},
	{rising(0, 65, 300), "\x41" + "\x00\x20\x3e" + strings.Repeat("\xab\x02", 31) + "\xac\x02\x20\x3e" + strings.Repeat("\xab\x02", 31) + "\xac\x02\x01\x00", []api.Block{{Last: 9300, Many: 32, At: 1}, {First: 9600, Last: 18900, Many: 32, At: 66}, {First: 19200, Last: 19200, Many: 1, At: 132}}},
}

// 13.2
func TestListsArePacked(t *testing.T) {
	for _, c := range packed {
		if s, errno := post.Pack(c.l); s != c.s || errno != api.OK {
			t.Errorf("Pack(%d) = %x, %d, not %x", c.l, s, errno, c.s)
		}
		for _, behind := range []string{"", "z", "\x00", "\x80", nine + nine, c.s} {
			if l, rest, errno := post.Unpack(c.s + behind); !slices.Equal(l, c.l) || rest != behind || errno != api.OK {
				t.Errorf("Unpack(%x) = %d, %x, %d", c.s+behind, l, rest, errno)
			}
			if l, errno := post.Blocks(c.s + behind); !slices.Equal(l, c.blocks) || errno != api.OK {
				t.Errorf("Blocks(%x) = %+v, %d, not %+v", c.s+behind, l, errno, c.blocks)
			}
		}
	}
}

// 13.2
func TestLongestListIsPacked(t *testing.T) {
	for _, l := range [][]uint32{rising(0, api.MaxList, 1), rising(greatest-api.MaxList+1, api.MaxList, 1), rising(9, api.MaxList, 65000)} {
		s := mustPack(t, l)
		if got, rest, errno := post.Unpack(s + "z"); !slices.Equal(got, l) || rest != "z" || errno != api.OK {
			t.Errorf("MaxList numbers are unpacked as %d, %x, %d", len(got), rest, errno)
		}
		blocks, errno := post.Blocks(s)
		if len(blocks) != api.MaxList/api.BlockSize || errno != api.OK {
			t.Fatalf("MaxList numbers have %d blocks, %d", len(blocks), errno)
		}
		for i, b := range blocks {
			if b.Many != api.BlockSize || b.First != l[i*b.Many] || b.Last != l[i*b.Many+b.Many-1] {
				t.Errorf("block %d is %+v", i, b)
			}
		}
	}
	wrong := numbers(api.MaxList+1) + mustPack(t, rising(0, api.MaxList, 1))[3:] + numbers(1, 1, 0)
	if l, rest, errno := post.Unpack(wrong); len(l) != 0 || rest != "" || errno != api.ErrLong {
		t.Errorf("one more is unpacked as %d numbers, %d", len(l), errno)
	}
}

// 13.2, P2
func TestWhatIsNoPackedListIsRefused(t *testing.T) {
	block := "\x20\x1f" + strings.Repeat("\x00", 31) // but for its first number
	last := vari.Put(greatest)
	for _, c := range []struct {
		s     string
		errno api.Errno
	}{
		{"", api.ErrShort},
		{"\x80", api.ErrShort},
		{nine, api.ErrShort},
		{"\x80\x00", api.ErrCode},
		{nine + "\x02", api.ErrCode},
		{nine + nine, api.ErrCode},
		// a count that is too great, whatever is behind it
		{numbers(api.MaxList + 1), api.ErrLong},
		{numbers(api.MaxList+1) + "\x80\x00", api.ErrLong},
		{numbers(math.MaxUint64), api.ErrLong},
		{numbers(api.MaxList), api.ErrShort},
		// a first number
		{"\x01", api.ErrShort},
		{"\x01\x80", api.ErrShort},
		{"\x01\x80\x00", api.ErrCode},
		{"\x01" + nine + "\x02", api.ErrCode},
		{"\x01" + numbers(greatest+1), api.ErrCode},
		{"\x01" + numbers(greatest+1, 1, 0), api.ErrCode},
		{"\x01" + numbers(math.MaxUint64, 1, 0), api.ErrCode},
		// how many numbers
		{"\x01\x05", api.ErrShort},
		{"\x01\x05\x80", api.ErrShort},
		{"\x01\x05\x81\x00\x00", api.ErrCode},
		{"\x01\x05\x00", api.ErrCode},
		{"\x01\x05\x00\x00", api.ErrCode},
		{"\x01\x05\x02", api.ErrCode},
		{"\x01\x05\x02\x01\x00", api.ErrCode},
		{"\x02\x05\x01\x00\x01\x01\x00", api.ErrCode}, // two blocks, where one has room for both
		{"\x02\x05\x03\x02\x00\x00", api.ErrCode},
		{"\x21\x00\x21\x20" + strings.Repeat("\x00", 32), api.ErrCode}, // one block, where there are to be two
		{"\x21\x00\x1f\x1e" + strings.Repeat("\x00", 30) + "\x01\x02\x01\x00", api.ErrCode},
		{"\x01\x05" + numbers(math.MaxUint64), api.ErrCode},
		// how many bytes: more, and fewer than there are
		{"\x01\x05\x01", api.ErrShort},
		{"\x01\x05\x01\x80", api.ErrShort},
		{"\x01\x05\x01\x80\x00", api.ErrCode},
		{"\x01\x05\x01\x01", api.ErrCode},
		{"\x01\x05\x01\x01\x00", api.ErrCode},
		{"\x01\x05\x01" + numbers(math.MaxUint64), api.ErrCode},
		{"\x02\x05\x02\x01", api.ErrShort},
		{"\x02\x05\x02\x00", api.ErrCode},
		{"\x02\x05\x02\x00\x00", api.ErrCode},
		{"\x02\x05\x02\x02", api.ErrShort},
		{"\x02\x05\x02\x02\x00", api.ErrCode},
		{"\x02\x05\x02\x02\x00\x00", api.ErrCode},
		{"\x02\x05\x02\x01\x80", api.ErrCode},
		{"\x02\x05\x02\x01\x80\x01", api.ErrCode},
		{"\x02\x05\x02\x02\x80", api.ErrShort},
		{"\x02\x05\x02" + numbers(math.MaxUint64) + "\x00", api.ErrCode},
		{"\x02\x05\x02" + numbers(math.MaxUint64) + "\x80", api.ErrShort},
		{"\x03\x05\x03\x02\x00\xa5\x02", api.ErrCode},
		{"\x03\x05\x03\x04\x00\xa5\x02", api.ErrCode},
		{"\x03\x05\x03\x04\x00\xa5\x02\x00", api.ErrCode},
		{"\x03\x05\x03\x02\x00\xa5", api.ErrCode},
		{"\x03\x05\x03\x01\x00", api.ErrCode},
		{"\x03\x05\x03\x03\x00", api.ErrShort},
		{"\x03\x05\x03\x03\x00\xa5", api.ErrShort},
		{"\x03\x05\x03\x09\x00\xa5", api.ErrShort},
		// numbers behind the first one
		{"\x03\x05\x03\x05\x80\x00", api.ErrCode}, // wrong ahead of where it ends
		{"\x02\x05\x02\x02\x80\x00", api.ErrCode},
		{"\x02\x05\x02\x0a" + nine + "\x02", api.ErrCode},
		{"\x02\x05\x02\x0a" + nine + "\x01", api.ErrCode},
		{"\x02\x00\x02\x05" + last, api.ErrCode},
		{"\x02" + last + "\x02\x01\x00", api.ErrCode},
		{"\x03" + last + "\x03\x02\x00", api.ErrCode}, // it is too great ahead of where it ends
		{"\x02\x05\x02\x0a" + numbers(math.MaxUint64-5), api.ErrCode},
		// a block behind another one
		{"\x21\x00" + block, api.ErrShort},
		{"\x21\x00" + block + "\x80", api.ErrShort},
		{"\x21\x00" + block + "\x00", api.ErrCode}, // its first number is the last one ahead
		{"\x21\x00" + block + "\x00\x01\x00", api.ErrCode},
		{"\x21\x00" + block + "\x01", api.ErrShort},
		{"\x21\x00" + block + "\x01\x01", api.ErrShort},
		{"\x21\x00" + block + "\x01\x02\x01\x00", api.ErrCode},
		{"\x21\x00" + block + numbers(greatest-30), api.ErrCode},
		{"\x21\x00" + block + numbers(greatest-30, 1, 0), api.ErrCode},
		{"\x21\x00" + block + numbers(math.MaxUint64-30, 1, 0), api.ErrCode},
		{"\x21\x00" + block + numbers(math.MaxUint64, 1, 0), api.ErrCode},
		{"\x21" + numbers(greatest-31) + block + "\x01\x01\x00", api.ErrCode},
		{"\x21" + numbers(greatest-30) + block + "\x01\x01\x00", api.ErrCode},
	} {
		refused(t, c.s, c.errno)
	}
}

// refused sees that all that read s answer that error, and nothing else.
func refused(t *testing.T, s string, want api.Errno) {
	t.Helper()
	if l, rest, errno := post.Unpack(s); len(l) != 0 || rest != "" || errno != want {
		t.Errorf("Unpack(%x) = %d, %x, %d, not the error %d alone", s, l, rest, errno, want)
	}
	if l, errno := post.Blocks(s); len(l) != 0 || errno != want {
		t.Errorf("Blocks(%x) = %+v, %d, not the error %d alone", s, l, errno, want)
	}
	for _, n := range list(0, 5, 6, greatest) {
		if is, errno := post.Has(s, n); is || errno != want {
			t.Errorf("Has(%x, %d) = %t, %d, not the error %d alone", s, n, is, errno, want)
		}
	}
}

// 13.2
func TestGreatestNumbersAreUnpacked(t *testing.T) {
	block := "\x20\x1f" + strings.Repeat("\x00", 31)
	for s, last := range map[string]uint32{
		"\x21\x00" + block + numbers(greatest-31, 1, 0):        greatest,
		"\x21" + numbers(greatest-32) + block + "\x01\x01\x00": greatest,
		"\x02\x00\x02\x05" + numbers(greatest-1):               greatest,
		"\x20" + numbers(greatest-31) + block:                  greatest,
	} {
		l, rest, errno := post.Unpack(s)
		if len(l) == 0 || l[len(l)-1] != last || rest != "" || errno != api.OK {
			t.Errorf("Unpack(%x) = %d, %x, %d", s, l, rest, errno)
		}
	}
}

// 13.2, P2
func TestBytesThatEndTooSoon(t *testing.T) {
	r := rand.New(rand.NewSource(1))
	lists := [][]uint32{list(5, 6, 300), list(greatest), rising(7, 33, 300), rising(0, 100, 1<<25), random(r, 200)}
	for _, l := range lists {
		s := mustPack(t, l)
		for cut := range len(s) {
			refused(t, s[:cut], api.ErrShort)
		}
	}
}

// 13.2
func TestHas(t *testing.T) {
	for _, c := range []struct {
		l       []uint32
		is, not []uint32
	}{
		{nil, nil, list(0, 1, greatest)},
		{list(0), list(0), list(1, greatest)},
		{list(greatest), list(greatest), list(0, greatest-1)},
		{list(5, 6, 300), list(5, 6, 300), list(0, 4, 7, 299, 301, greatest)},
		// blocks are 10 to 134, 138 to 262, 266 to 270
		{rising(10, 66, 4)[:66], list(10, 14, 130, 134, 138, 142, 262, 266, 270), list(0, 9, 11, 131, 133, 135, 136, 137, 139, 263, 265, 267, 269, 271, 274, greatest)},
	} {
		s := mustPack(t, c.l)
		for _, behind := range []string{"", "\x00", s} {
			for _, n := range c.is {
				if is, errno := post.Has(s+behind, n); !is || errno != api.OK {
					t.Errorf("%d of %d: %t, %d", n, c.l, is, errno)
				}
			}
			for _, n := range c.not {
				if is, errno := post.Has(s+behind, n); is || errno != api.OK {
					t.Errorf("%d, that is none of %d: %t, %d", n, c.l, is, errno)
				}
			}
		}
	}
}

// 13.2
func TestBlocksBeginWhereTheyAreTold(t *testing.T) {
	r := rand.New(rand.NewSource(2))
	for range 500 {
		l := random(r, r.Intn(200))
		s := mustPack(t, l)
		blocks, errno := post.Blocks(s + "behind")
		if errno != api.OK || len(blocks) != (len(l)+api.BlockSize-1)/api.BlockSize {
			t.Fatalf("%d numbers have %d blocks, %d", len(l), len(blocks), errno)
		}
		var ahead uint32
		for i, b := range blocks {
			piece := l[i*api.BlockSize : min(len(l), (i+1)*api.BlockSize)]
			end := len(s)
			if i+1 < len(blocks) {
				end = blocks[i+1].At
			}
			// a block by itself is a list of one block, but for its first number
			alone := mustPack(t, piece)[len(numbers(uint64(len(piece)), uint64(piece[0]))):]
			if s[b.At:end] != numbers(uint64(piece[0]-ahead))+alone {
				t.Fatalf("block %d of %d begins at %d of %x", i, l, b.At, s)
			}
			if b.First != piece[0] || b.Last != piece[len(piece)-1] || b.Many != len(piece) {
				t.Fatalf("block %d of %d is %+v", i, l, b)
			}
			ahead = b.Last
		}
	}
}

// 13.3
func TestAnswersAreNewMemory(t *testing.T) {
	one, two := list(1, 2, 5, 9), list(2, 3, 5, 8)
	calls := map[string]func() ([]uint32, api.Errno){
		"And":                func() ([]uint32, api.Errno) { return post.And(one[:3], two[:3]) },
		"And of one":         func() ([]uint32, api.Errno) { return post.And(one[:3]) },
		"Or":                 func() ([]uint32, api.Errno) { return post.Or(one[:3], two[:3]) },
		"Or of one":          func() ([]uint32, api.Errno) { return post.Or(one[:3]) },
		"Or with none":       func() ([]uint32, api.Errno) { return post.Or(one[:3], nil) },
		"Or with none ahead": func() ([]uint32, api.Errno) { return post.Or(nil, one[:3]) },
		"Without":            func() ([]uint32, api.Errno) { return post.Without(one[:3], two[:3]) },
		"Without none":       func() ([]uint32, api.Errno) { return post.Without(one[:3], nil) },
		"Unpack":             func() ([]uint32, api.Errno) { l, _, errno := post.Unpack("\x02\x05\x02\x01\x00"); return l, errno },
	}
	for name, call := range calls {
		first, _ := call()
		want := slices.Clone(first)
		whole := first[:cap(first)]
		for i := range whole {
			whole[i] = 77
		}
		if again, errno := call(); !slices.Equal(again, want) || errno != api.OK {
			t.Errorf("%s: what was answered was changed, and %d, %d is answered", name, again, errno)
		}
		if !slices.Equal(one, list(1, 2, 5, 9)) || !slices.Equal(two, list(2, 3, 5, 8)) {
			t.Fatalf("%s shares memory with what was handed in: %d, %d", name, one, two)
		}
	}
	s := mustPack(t, one) + strings.Repeat("y", 100)
	if _, rest, _ := post.Unpack(s); shares(rest, s) {
		t.Error("what Unpack tells is behind a list shares its memory")
	}
	if shares(mustPack(t, one), mustPack(t, one)) || shares(mustPack(t, nil), mustPack(t, nil)) {
		t.Error("two answers of Pack share their memory")
	}
	blocks, _ := post.Blocks(s)
	blocks[0] = api.Block{}
	if again, _ := post.Blocks(s); !slices.Equal(again, []api.Block{{First: 1, Last: 9, Many: 4, At: 1}}) {
		t.Errorf("blocks that were changed are answered as %+v", again)
	}
	kept := mustPack(t, one)
	one[0] = 0
	if kept != mustPack(t, list(1, 2, 5, 9)) {
		t.Error("what was packed is kept")
	}
}

// 13.4
func TestListsThereAndBack(t *testing.T) {
	r := rand.New(rand.NewSource(3))
	for range 3000 {
		want := random(r, r.Intn(150))
		s := mustPack(t, want)
		if l, rest, errno := post.Unpack(s + "\xff"); !slices.Equal(l, want) || rest != "\xff" || errno != api.OK {
			t.Fatalf("%d is packed, and unpacked as %d, %x, %d", want, l, rest, errno)
		}
		for _, n := range append(random(r, 10), want...) {
			if is, errno := post.Has(s, n); is != slices.Contains(want, n) || errno != api.OK {
				t.Fatalf("Has(%x, %d) = %t, %d", s, n, is, errno)
			}
		}
	}
}

// 13.5
func TestSets(t *testing.T) {
	r := rand.New(rand.NewSource(4))
	for range 3000 {
		many := map[uint32]int{}
		var lists [][]uint32
		for range r.Intn(6) {
			var l []uint32
			for n := range uint32(40) {
				if r.Intn(4) > 0 {
					l = append(l, n*100)
					many[n*100]++
				}
			}
			lists = append(lists, l)
		}
		and, errno := post.And(lists...)
		or, errnoOr := post.Or(lists...)
		if errno != api.OK || errnoOr != api.OK || post.Check(and) != api.OK || post.Check(or) != api.OK {
			t.Fatalf("And: %d, %d; Or: %d, %d", and, errno, or, errnoOr)
		}
		for n := range uint32(4001) {
			if slices.Contains(and, n) != (many[n] > 0 && many[n] == len(lists)) || slices.Contains(or, n) != (many[n] > 0) {
				t.Fatalf("%d of %d: And %d, Or %d", n, lists, and, or)
			}
		}
		if len(lists) < 2 {
			continue
		}
		without, errno := post.Without(lists[0], lists[1])
		if errno != api.OK || post.Check(without) != api.OK {
			t.Fatalf("Without: %d, %d", without, errno)
		}
		for n := range uint32(4001) {
			if slices.Contains(without, n) != (slices.Contains(lists[0], n) && !slices.Contains(lists[1], n)) {
				t.Fatalf("%d of %d without %d: %d", n, lists[0], lists[1], without)
			}
		}
	}
}

// plainly reads a packed list just as the chapter words it, number by number, up to where it is none.
func plainly(s string) ([]uint32, string, api.Errno) {
	rest, told := s, -1 // bytes of a block that are told, and not read yet; below 0, if none are
	get := func() (n uint64, errno api.Errno) {
		if told >= 0 && told <= len(rest) {
			n, _, errno = vari.Get(rest[:told])
			if errno == api.ErrShort {
				errno = api.ErrCode
			}
		} else {
			n, _, errno = vari.Get(rest)
		}
		if errno == api.OK {
			rest = rest[vari.Size(n):]
			told -= vari.Size(n)
		}
		return n, errno
	}
	count, errno := get()
	if errno != api.OK {
		return nil, "", errno
	}
	if count > api.MaxList {
		return nil, "", api.ErrLong
	}
	var l []uint32
	for i := range int(count) {
		inBlock := i % api.BlockSize
		if inBlock == 0 {
			told = -1
		}
		n, errno := get()
		if errno != api.OK {
			return nil, "", errno
		}
		var lowest uint64
		if i > 0 {
			lowest = uint64(l[i-1])
		}
		if i > 0 && inBlock > 0 {
			lowest++
		}
		if n > greatest || lowest+n > greatest || i > 0 && lowest+n <= uint64(l[i-1]) {
			return nil, "", api.ErrCode
		}
		l = append(l, uint32(lowest+n))
		if inBlock == 0 {
			many, errno := get()
			if errno != api.OK {
				return nil, "", errno
			}
			if many != min(count-uint64(i), api.BlockSize) {
				return nil, "", api.ErrCode
			}
			told = -1
			size, errno := get()
			if errno != api.OK {
				return nil, "", errno
			}
			told = int(min(size, math.MaxInt32))
		}
		if (inBlock == api.BlockSize-1 || i == int(count)-1) && told != 0 {
			return nil, "", api.ErrCode
		}
	}
	return l, rest, api.OK
}

// texts tells texts of any bytes, and packed lists with bytes that are changed, cut out and put in.
func texts(t *testing.T) []string {
	var l []string
	for a := range 256 {
		for b := range 256 {
			l = append(l, string([]byte{byte(a), byte(b)}), string([]byte{1, byte(a), 1, byte(b)}), string([]byte{2, 5, 2, byte(a), byte(b)}))
		}
	}
	r := rand.New(rand.NewSource(5))
	for range 60000 {
		b := []byte(mustPack(t, random(r, r.Intn(5)*r.Intn(18))) + "behind"[:r.Intn(7)])
		for range r.Intn(4) {
			at := r.Intn(len(b))
			switch r.Intn(5) {
			case 0:
				b[at] = byte(r.Intn(256))
			case 1:
				b[at] += byte(r.Intn(3) - 1)
			case 2:
				b = slices.Insert(b, at, byte(r.Intn(3)<<7))
			case 3:
				b = slices.Insert(slices.Delete(b, at, at+1), 0, byte(r.Intn(4)))
			case 4:
				b = b[:at+1]
			}
		}
		l = append(l, string(b))
	}
	return l
}

// 13.2, 13.4, P1 to P4
func TestAnyBytesAreAnswered(t *testing.T) {
	ahead := runtime.NumGoroutine()
	many := map[api.Errno]int{}
	for _, s := range texts(t) {
		want, behind, wantErrno := plainly(s)
		many[wantErrno]++
		l, rest, errno := post.Unpack(s)
		if !slices.Equal(l, want) || rest != behind || errno != wantErrno {
			t.Fatalf("Unpack(%x) = %d, %x, %d, not %d, %x, %d", s, l, rest, errno, want, behind, wantErrno)
		}
		if errno == api.OK && mustPack(t, l)+rest != s {
			t.Fatalf("%x is unpacked as %d, that is packed in another way", s, l)
		}
		blocks, errno := post.Blocks(s)
		if errno != wantErrno || len(blocks) != (len(want)+api.BlockSize-1)/api.BlockSize {
			t.Fatalf("Blocks(%x) = %+v, %d, not %d", s, blocks, errno, wantErrno)
		}
		n := uint32(len(s))
		if is, errno := post.Has(s, n); is != slices.Contains(want, n) || errno != wantErrno {
			t.Fatalf("Has(%x, %d) = %t, %d, not %d", s, n, is, errno, wantErrno)
		}
	}
	for _, errno := range []api.Errno{api.OK, api.ErrShort, api.ErrCode, api.ErrLong} {
		if many[errno] < 100 {
			t.Errorf("only %d texts are answered by %d", many[errno], errno)
		}
	}
	if behind := runtime.NumGoroutine(); behind > ahead { // fewer, if that of an earlier test was just ending
		t.Errorf("%d goroutines ahead, %d behind", ahead, behind)
	}
}

// P1: lists that are anything are answered, and not changed.
func TestAnyListsAreAnswered(t *testing.T) {
	r := rand.New(rand.NewSource(6))
	for range 20000 {
		var lists [][]uint32
		for range r.Intn(4) {
			var l []uint32
			for range r.Intn(4) {
				l = append(l, r.Uint32()>>(r.Intn(2)*30))
			}
			lists = append(lists, l)
		}
		var kept [][]uint32
		want := api.OK
		for _, l := range lists {
			kept = append(kept, slices.Clone(l))
			if want == api.OK {
				want = post.Check(l)
			}
		}
		and, errno := post.And(lists...)
		or, errnoOr := post.Or(lists...)
		if errno != want || errnoOr != want || want != api.OK && len(and)+len(or) > 0 || len(and) > len(or) {
			t.Fatalf("And(%d) = %d, %d; Or: %d, %d", lists, and, errno, or, errnoOr)
		}
		for i, l := range lists {
			if !slices.Equal(l, kept[i]) {
				t.Fatalf("%d was changed to %d", kept[i], l)
			}
		}
	}
}
