package nset_test

import (
	"math"
	"math/rand"
	"runtime"
	"slices"
	"strconv"
	"strings"
	"testing"
	"unsafe"

	"missive/api"
	"missive/nset"
)

// The signatures that the chapter lists.
var (
	_ func(string) ([]api.Span, api.Errno)             = nset.Parse
	_ func(...api.Span) (string, api.Errno)            = nset.Write
	_ func([]api.Span, uint32) ([]api.Span, api.Errno) = nset.Sort
	_ func([]api.Span, uint32, uint32) bool            = nset.Has
	_ func(...uint32) ([]api.Span, api.Errno)          = nset.Pack
	_ func([]api.Span, uint32) (uint64, api.Errno)     = nset.Count
	_ func([]api.Span, uint32, []uint32) []uint32      = nset.Only
)

const greatest = math.MaxUint32

// texts are sets, and how they are written.
var texts = []struct {
	text string
	set  []api.Span
}{
	{"1", []api.Span{{From: 1, To: 1}}},
	{"*", []api.Span{{}}},
	{"10", []api.Span{{From: 10, To: 10}}},
	{"1:2", []api.Span{{From: 1, To: 2}}},
	{"2:1", []api.Span{{From: 2, To: 1}}},
	{"7:*", []api.Span{{From: 7}}},
	{"*:7", []api.Span{{To: 7}}},
	{"4294967295", []api.Span{{From: greatest, To: greatest}}},
	{"4294967295:1,1:4294967295", []api.Span{{From: greatest, To: 1}, {From: 1, To: greatest}}},
	{"3:1,7", []api.Span{{From: 3, To: 1}, {From: 7, To: 7}}},
	{"5,5,4:6,*,*", []api.Span{{From: 5, To: 5}, {From: 5, To: 5}, {From: 4, To: 6}, {}, {}}},
}

// random tells spans with ends below most; many of them are stars, or touch.
func random(r *rand.Rand, many, most int) []api.Span {
	var l []api.Span
	for range many {
		l = append(l, api.Span{From: uint32(r.Intn(most)), To: uint32(r.Intn(most))})
	}
	return l
}

// many tells spans that do not touch.
func many(n int) []api.Span {
	var l []api.Span
	for i := range n {
		l = append(l, api.Span{From: uint32(3*i + 1), To: uint32(3*i + 2)})
	}
	return l
}

// isOf tells whether a set has a number, just as the chapter words it.
func isOf(l []api.Span, most, n uint32) bool {
	for _, s := range l {
		if s.From == 0 {
			s.From = most
		}
		if s.To == 0 {
			s.To = most
		}
		if s.From <= n && n <= s.To || s.To <= n && n <= s.From {
			return true
		}
	}
	return false
}

// shares tells whether two texts have a byte of memory together.
func shares(a, b string) bool {
	if a == "" || b == "" {
		return false
	}
	x, y := uintptr(unsafe.Pointer(unsafe.StringData(a))), uintptr(unsafe.Pointer(unsafe.StringData(b)))
	return x < y+uintptr(len(b)) && y < x+uintptr(len(a))
}

// 3.1
func TestTextsAreParsedAndWritten(t *testing.T) {
	for _, c := range texts {
		if l, errno := nset.Parse(c.text); !slices.Equal(l, c.set) || errno != api.OK {
			t.Errorf("Parse(%s) = %v, %d", c.text, l, errno)
		}
		if s, errno := nset.Write(c.set...); s != c.text || errno != api.OK {
			t.Errorf("Write(%v) = %s, %d", c.set, s, errno)
		}
	}
}

// 3.1, P2
func TestWhatIsNoSetIsNotParsed(t *testing.T) {
	for _, s := range []string{
		"", ",", ":", "1,", ",1", "1,,2", "1:", ":1", "1::2", "1:2:3", "1:,2", "1:2,",
		"0", "00", "01", "1:0", "0:1", "1:02", "0:*", "*:0", "*0", "0*",
		"4294967296", "1:4294967296", "4294967296:1", "10000000000", "18446744073709551616", "99999999999999999999999",
		"**", "*,", ",*", "*1", "1*", "*:*:*", "*:",
		"1:1", "*:*", "4294967295:4294967295", "7,3:3",
		"a", "1a", "-1", "+1", " 1", "1 ", "1, 2", "1 :2", "1_0", "0x1", "1e2", "1.0", "1\x00", "\x001", "\xff", "1;2", "١",
	} {
		if l, errno := nset.Parse(s); len(l) != 0 || errno != api.ErrCode {
			t.Errorf("Parse(%q) = %v, %d", s, l, errno)
		}
	}
}

// 3.1, P2
func TestMostSpans(t *testing.T) {
	for _, one := range []string{"1", "*", "1:*", "4294967295:1"} {
		text := strings.Repeat(one+",", api.MaxSpans-1) + one
		l, errno := nset.Parse(text)
		if len(l) != api.MaxSpans || errno != api.OK {
			t.Errorf("MaxSpans of %s are parsed as %d, %d", one, len(l), errno)
		}
		if s, errno := nset.Write(l...); s != text || errno != api.OK {
			t.Errorf("MaxSpans of %s are written as %d bytes, %d", one, len(s), errno)
		}
		for _, more := range []string{"," + one, strings.Repeat(","+one, 3000)} {
			if l, errno := nset.Parse(text + more); len(l) != 0 || errno != api.ErrLong {
				t.Errorf("more than MaxSpans of %s are parsed as %d, %d", one, len(l), errno)
			}
		}
		for _, wrong := range []string{",", ",0", "," + one + ",", "," + one + ",x", "," + one + "," + one + ",1:1"} {
			if l, errno := nset.Parse(text + wrong); len(l) != 0 || errno != api.ErrCode {
				t.Errorf("more than MaxSpans of %s, and %s: %d, %d", one, wrong, len(l), errno)
			}
		}
	}
	for _, l := range [][]api.Span{nil, {}, many(api.MaxSpans + 1), many(3 * api.MaxSpans)} {
		if s, errno := nset.Write(l...); s != "" || errno != api.ErrRange {
			t.Errorf("%d spans are written as %d bytes, %d", len(l), len(s), errno)
		}
	}
}

// 3.2
func TestHas(t *testing.T) {
	for _, c := range []struct {
		text string
		most uint32
		n    uint32
		is   bool
	}{
		{"3:1,7", 9, 1, true}, {"3:1,7", 9, 2, true}, {"3:1,7", 9, 3, true}, {"3:1,7", 9, 7, true},
		{"3:1,7", 9, 0, false}, {"3:1,7", 9, 4, false}, {"3:1,7", 9, 6, false}, {"3:1,7", 9, 8, false}, {"3:1,7", 9, greatest, false},
		{"3:1,7", 2, 3, true}, {"3:1,7", 2, 7, true}, {"3:1,7", 0, 3, true},
		{"*", 9, 9, true}, {"*", 9, 8, false}, {"*", 9, 10, false}, {"*", 9, 0, false},
		{"*", 0, 0, true}, {"*", 0, 1, false}, {"*:2", 0, 0, true}, {"*:2", 0, 1, true}, {"2:*", 0, 2, true}, {"2:*", 0, 3, false},
		{"1:2", 0, 0, false},
		{"5:*", 9, 4, false}, {"5:*", 9, 5, true}, {"5:*", 9, 9, true}, {"5:*", 9, 10, false},
		{"12:*", 9, 8, false}, {"12:*", 9, 9, true}, {"12:*", 9, 11, true}, {"12:*", 9, 12, true}, {"12:*", 9, 13, false},
		{"4294967295", 9, greatest, true}, {"4294967295", 9, greatest - 1, false}, {"*", greatest, greatest, true},
		{"1:4294967295", 0, greatest, true}, {"1:4294967295", 0, 0, false}, {"*:4294967295", 0, 0, true},
	} {
		l, errno := nset.Parse(c.text)
		if errno != api.OK {
			t.Fatalf("Parse(%s): %d", c.text, errno)
		}
		if is := nset.Has(l, c.most, c.n); is != c.is {
			t.Errorf("Has(%s, %d, %d) = %t", c.text, c.most, c.n, is)
		}
	}
	if nset.Has(nil, 9, 9) || nset.Has([]api.Span{}, 0, 0) {
		t.Error("no spans have a number")
	}
	if l := many(2 * api.MaxSpans); !nset.Has(l, 0, l[len(l)-1].To) || nset.Has(l, 0, 3) {
		t.Error("of many spans it is told wrongly")
	}
}

// 3.2
func TestSortAndCount(t *testing.T) {
	for _, c := range []struct {
		text   string
		most   uint32
		sorted []api.Span
		many   uint64
	}{
		{"3:1,7,*", 2, []api.Span{{From: 1, To: 3}, {From: 7, To: 7}}, 4},
		{"3:1,7,*", 9, []api.Span{{From: 1, To: 3}, {From: 7, To: 7}, {From: 9, To: 9}}, 5},
		{"3:1,7,*", 8, []api.Span{{From: 1, To: 3}, {From: 7, To: 8}}, 5},
		{"4,1:3", 9, []api.Span{{From: 1, To: 4}}, 4},
		{"5,1:3", 9, []api.Span{{From: 1, To: 3}, {From: 5, To: 5}}, 4},
		{"2:3,1:9,4:5,9:10", 0, []api.Span{{From: 1, To: 10}}, 10},
		{"5,5,5", 0, []api.Span{{From: 5, To: 5}}, 1},
		{"1:5,1:2,1:9", 0, []api.Span{{From: 1, To: 9}}, 9},
		{"*", 0, []api.Span{{}}, 1},
		{"*,1", 0, []api.Span{{To: 1}}, 2},
		{"*,2", 0, []api.Span{{}, {From: 2, To: 2}}, 2},
		{"7:*", 0, []api.Span{{To: 7}}, 8},
		{"12:*", 9, []api.Span{{From: 9, To: 12}}, 4},
		{"4294967295", 9, []api.Span{{From: greatest, To: greatest}}, 1},
		{"4294967294,4294967295,1:2", 9, []api.Span{{From: 1, To: 2}, {From: greatest - 1, To: greatest}}, 4},
		{"4294967295,1:4294967295,4294967295", 9, []api.Span{{From: 1, To: greatest}}, greatest},
		{"*:4294967295", 0, []api.Span{{To: greatest}}, greatest + 1},
	} {
		l, _ := nset.Parse(c.text)
		if sorted, errno := nset.Sort(l, c.most); !slices.Equal(sorted, c.sorted) || errno != api.OK {
			t.Errorf("Sort(%s, %d) = %v, %d", c.text, c.most, sorted, errno)
		}
		if many, errno := nset.Count(l, c.most); many != c.many || errno != api.OK {
			t.Errorf("Count(%s, %d) = %d, %d", c.text, c.most, many, errno)
		}
	}
	for _, l := range [][]api.Span{nil, {}} {
		sorted, errno := nset.Sort(l, 9)
		many, wrong := nset.Count(l, 9)
		if len(sorted) != 0 || errno != api.OK || many != 0 || wrong != api.OK {
			t.Errorf("of no spans: %v, %d and %d, %d", sorted, errno, many, wrong)
		}
	}
}

// 3.2, P2
func TestSortAndCountOfMostSpans(t *testing.T) {
	l := many(api.MaxSpans)
	back := slices.Clone(l)
	slices.Reverse(back)
	if sorted, errno := nset.Sort(back, 9); !slices.Equal(sorted, l) || errno != api.OK {
		t.Errorf("MaxSpans spans are sorted as %d, %d", len(sorted), errno)
	}
	if many, errno := nset.Count(back, 9); many != 2*api.MaxSpans || errno != api.OK {
		t.Errorf("MaxSpans spans have %d numbers, %d", many, errno)
	}
	for _, l := range [][]api.Span{many(api.MaxSpans + 1), make([]api.Span, api.MaxSpans+1), make([]api.Span, 5*api.MaxSpans)} {
		if sorted, errno := nset.Sort(l, 9); len(sorted) != 0 || errno != api.ErrRange {
			t.Errorf("%d spans are sorted as %d, %d", len(l), len(sorted), errno)
		}
		if many, errno := nset.Count(l, 9); many != 0 || errno != api.ErrRange {
			t.Errorf("%d spans have %d numbers, %d", len(l), many, errno)
		}
	}
}

// 3.2
func TestOnly(t *testing.T) {
	for _, c := range []struct {
		text    string
		most    uint32
		numbers []uint32
		in      []uint32
	}{
		{"3:1,7,*", 9, []uint32{9, 4, 2}, []uint32{9, 2}},
		{"3:1,7,*", 9, []uint32{7, 2, 7, 0, 2, greatest}, []uint32{7, 2, 7, 2}},
		{"3:1,7,*", 9, nil, nil},
		{"*", 0, []uint32{1, 0, 2, 0}, []uint32{0, 0}},
		{"1:4294967295", 0, []uint32{greatest, 0, 1}, []uint32{greatest, 1}},
		{"5", 0, []uint32{4, 6}, nil},
	} {
		l, _ := nset.Parse(c.text)
		if in := nset.Only(l, c.most, c.numbers); !slices.Equal(in, c.in) {
			t.Errorf("Only(%s, %d, %d) = %d", c.text, c.most, c.numbers, in)
		}
	}
	if in := nset.Only(nil, 9, []uint32{0, 9}); len(in) != 0 {
		t.Errorf("in no spans there are %d", in)
	}
	if in := nset.Only(many(2*api.MaxSpans), 9, []uint32{6*api.MaxSpans - 1, 3, 1, 6 * api.MaxSpans}); !slices.Equal(in, []uint32{6*api.MaxSpans - 1, 1}) {
		t.Errorf("in many spans there are %d", in)
	}
}

// 3.2, 3.6
func TestSortedHasTheSameNumbers(t *testing.T) {
	r := rand.New(rand.NewSource(1))
	for range 5000 {
		l := random(r, r.Intn(7), 2+r.Intn(20))
		most := uint32(r.Intn(12))
		sorted, errno := nset.Sort(l, most)
		if errno != api.OK {
			t.Fatalf("Sort(%v, %d): %d", l, most, errno)
		}
		for i, s := range sorted {
			if s.From > s.To || i > 0 && s.From <= sorted[i-1].To+1 {
				t.Fatalf("Sort(%v, %d) = %v", l, most, sorted)
			}
		}
		var all, want []uint32
		for n := range uint32(25) {
			all = append(all, n)
			is := isOf(l, most, n)
			if is {
				want = append(want, n)
			}
			if nset.Has(l, most, n) != is || nset.Has(sorted, most, n) != is {
				t.Fatalf("%d of %v, sorted %v, with %d: %t", n, l, sorted, most, is)
			}
		}
		if in := nset.Only(l, most, all); !slices.Equal(in, want) {
			t.Fatalf("Only(%v, %d) = %d, not %d", l, most, in, want)
		}
		many, _ := nset.Count(l, most)
		again, _ := nset.Count(sorted, most)
		if many != uint64(len(want)) || again != many {
			t.Fatalf("Count(%v, %d) = %d, sorted %d, not %d", l, most, many, again, len(want))
		}
	}
}

// 3.3
func TestPack(t *testing.T) {
	for _, c := range []struct {
		numbers []uint32
		set     []api.Span
	}{
		{[]uint32{1, 2, 3, 7}, []api.Span{{From: 1, To: 3}, {From: 7, To: 7}}},
		{[]uint32{5}, []api.Span{{From: 5, To: 5}}},
		{[]uint32{2, 4}, []api.Span{{From: 2, To: 2}, {From: 4, To: 4}}},
		{[]uint32{2, 3, 5, 6, 7, 9}, []api.Span{{From: 2, To: 3}, {From: 5, To: 7}, {From: 9, To: 9}}},
		{[]uint32{1, greatest - 1, greatest}, []api.Span{{From: 1, To: 1}, {From: greatest - 1, To: greatest}}},
		{[]uint32{greatest}, []api.Span{{From: greatest, To: greatest}}},
	} {
		if l, errno := nset.Pack(c.numbers...); !slices.Equal(l, c.set) || errno != api.OK {
			t.Errorf("Pack(%d) = %v, %d", c.numbers, l, errno)
		}
	}
}

// 3.3, P2, P3
func TestPackRefuses(t *testing.T) {
	var apart []uint32 // one span more than there may be
	for i := range api.MaxSpans + 1 {
		apart = append(apart, uint32(2*i+1))
	}
	if l, errno := nset.Pack(apart[:api.MaxSpans]...); len(l) != api.MaxSpans || errno != api.OK {
		t.Errorf("MaxSpans spans are packed as %d, %d", len(l), errno)
	}
	for name, c := range map[string]struct {
		numbers []uint32
		errno   api.Errno
	}{
		"none":                           {nil, api.ErrRange},
		"0":                              {[]uint32{0}, api.ErrRange},
		"0, and more":                    {[]uint32{0, 1, 2}, api.ErrRange},
		"too many spans":                 {apart, api.ErrRange},
		"one twice":                      {[]uint32{2, 2}, api.ErrOrder},
		"one below the one ahead":        {[]uint32{1, 2, 5, 4, 9}, api.ErrOrder},
		"0 twice":                        {[]uint32{0, 0}, api.ErrOrder},
		"0 at the end":                   {[]uint32{1, 0}, api.ErrOrder},
		"0, and then one twice":          {[]uint32{0, 3, 3}, api.ErrOrder},
		"the greatest one twice":         {[]uint32{greatest, greatest}, api.ErrOrder},
		"too many spans out of order":    {append(slices.Clone(apart), 1), api.ErrOrder},
		"too many spans, the last twice": {append(slices.Clone(apart), apart[api.MaxSpans]), api.ErrOrder},
	} {
		if l, errno := nset.Pack(c.numbers...); len(l) != 0 || errno != c.errno {
			t.Errorf("Pack of %s: %d spans, %d, not the error %d alone", name, len(l), errno, c.errno)
		}
	}
	var dense []uint32
	for n := range uint32(5 * api.MaxSpans) {
		dense = append(dense, n+1)
	}
	if l, errno := nset.Pack(dense...); !slices.Equal(l, []api.Span{{From: 1, To: 5 * api.MaxSpans}}) || errno != api.OK {
		t.Errorf("many numbers in one span are packed as %d, %d", len(l), errno)
	}
}

// 3.4
func TestAnswersAreNewMemory(t *testing.T) {
	given := []api.Span{{From: 9, To: 7}, {From: 3, To: 3}, {}, {From: 1, To: 2}}
	set := slices.Clone(given)
	numbers := []uint32{1, 5, 9}
	one, _ := nset.Sort(set, 9)
	two, _ := nset.Sort(set, 9)
	in := nset.Only(set, 9, numbers)
	nset.Count(set, 9)
	nset.Has(set, 9, 3)
	a, _ := nset.Write(set...)
	b, _ := nset.Write(set...)
	packed, _ := nset.Pack(numbers...)
	if !slices.Equal(set, given) || !slices.Equal(numbers, []uint32{1, 5, 9}) {
		t.Errorf("what was handed in is changed: %v, %d", set, numbers)
	}
	if shares(a, b) {
		t.Error("what Write tells shares its memory")
	}
	one[0], in[0], packed[0] = api.Span{From: 77}, 77, api.Span{From: 77}
	if two[0].From == 77 || !slices.Equal(set, given) || numbers[0] != 1 {
		t.Error("what is told shares its memory")
	}
	rising := []api.Span{{From: 1, To: 2}}
	sorted, _ := nset.Sort(rising, 9)
	sorted[0].From = 77
	parsed, _ := nset.Parse("1:2")
	parsed[0].From = 77
	again, _ := nset.Parse("1:2")
	if rising[0].From != 1 || again[0].From != 1 {
		t.Error("what was sorted, or parsed, shares its memory")
	}
	x, _ := nset.Write(api.Span{})
	y, _ := nset.Write(api.Span{})
	if shares(x, y) {
		t.Error("a star shares its memory")
	}
}

// 3.5
func TestThereAndBack(t *testing.T) {
	r := rand.New(rand.NewSource(2))
	for range 3000 {
		l := random(r, 1+r.Intn(9), 2+r.Intn(1000))
		s, errno := nset.Write(l...)
		if errno != api.OK {
			t.Fatalf("Write(%v): %d", l, errno)
		}
		parsed, errno := nset.Parse(s)
		if !slices.Equal(parsed, l) || errno != api.OK {
			t.Fatalf("%v is written as %s, and parsed as %v, %d", l, s, parsed, errno)
		}
		if again, errno := nset.Write(parsed...); again != s || errno != api.OK {
			t.Fatalf("%s is parsed, and written as %s, %d", s, again, errno)
		}
	}
}

// 3.5
func TestPackedNumbersAreThose(t *testing.T) {
	r := rand.New(rand.NewSource(3))
	for range 2000 {
		var numbers, all []uint32
		for n := range uint32(40) {
			all = append(all, n)
			if n > 0 && r.Intn(3) > 0 {
				numbers = append(numbers, n)
			}
		}
		l, errno := nset.Pack(numbers...)
		if errno != api.OK {
			t.Fatalf("Pack(%d): %d", numbers, errno)
		}
		most := uint32(r.Intn(40))
		sorted, _ := nset.Sort(l, most)
		if in := nset.Only(l, most, all); !slices.Equal(in, numbers) || !slices.Equal(sorted, l) {
			t.Fatalf("Pack(%d) = %v", numbers, l)
		}
	}
}

// P1 to P4
func TestAnythingIsAnswered(t *testing.T) {
	ahead := runtime.NumGoroutine()
	r := rand.New(rand.NewSource(4))
	const letters = "0123456789:,*:,*1 \xff"
	for range 50000 {
		b := make([]byte, r.Intn(10))
		for i := range b {
			b[i] = letters[r.Intn(len(letters))]
		}
		l, errno := nset.Parse(string(b))
		again, same := nset.Parse(string(b))
		if !slices.Equal(l, again) || errno != same || errno != api.OK && len(l) != 0 {
			t.Fatalf("Parse(%q) = %v, %d and %v, %d", b, l, errno, again, same)
		}
		if s, wrong := nset.Write(l...); errno == api.OK && (s != string(b) || wrong != api.OK) {
			t.Fatalf("%q is written as %s, %d", b, s, wrong)
		}
	}
	for range 3000 {
		var l []api.Span
		for range r.Intn(4) {
			l = append(l, api.Span{From: r.Uint32() << r.Intn(33), To: r.Uint32() >> r.Intn(33)})
		}
		most, n := r.Uint32()<<r.Intn(33), r.Uint32()>>r.Intn(33)
		if nset.Has(l, most, n) != isOf(l, most, n) {
			t.Fatalf("Has(%v, %d, %d)", l, most, n)
		}
		sorted, _ := nset.Sort(l, most)
		if nset.Has(sorted, most, n) != isOf(l, most, n) || len(nset.Only(l, most, []uint32{n})) == 1 != isOf(l, most, n) {
			t.Fatalf("%d of %v with %d, sorted %v", n, l, most, sorted)
		}
		nset.Count(l, most)
		nset.Pack(most, n)
	}
	if behind := runtime.NumGoroutine(); behind > ahead { // fewer, if that of an earlier test was just ending
		t.Errorf("%d goroutines ahead, %d behind", ahead, behind)
	}
}

// P1: many spans, and many numbers, are not each held against the other.
func TestManyOfBothAreAnswered(t *testing.T) {
	l := many(100000)
	var numbers []uint32
	for n := range uint32(300000) {
		numbers = append(numbers, n)
	}
	if in := nset.Only(l, 0, numbers); len(in) != 200000 {
		t.Errorf("%d numbers are in", len(in))
	}
	var b strings.Builder
	for n := range 300000 {
		b.WriteString(strconv.Itoa(n+1) + ",")
	}
	if l, errno := nset.Parse(b.String() + "*"); len(l) != 0 || errno != api.ErrLong {
		t.Errorf("too many spans are %d, %d", len(l), errno)
	}
}
