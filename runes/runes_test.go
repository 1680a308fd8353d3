package runes_test

import (
	"math"
	"math/rand"
	"runtime"
	"slices"
	"strings"
	"testing"
	"unicode/utf8"
	"unsafe"

	"missive/api"
	"missive/runes"
)

// The signatures that the chapter lists.
var (
	_ func(string) (api.Charset, api.Errno)          = runes.Named
	_ func(api.Charset) (string, api.Errno)          = runes.Name
	_ func(api.Charset, string) ([]int32, api.Errno) = runes.Decode
	_ func(api.Charset, []int32) (string, api.Errno) = runes.Encode
	_ func(...int32) string                          = runes.Utf8
	_ func(string) []int32                           = runes.Letters
)

const bad = 0xfffd

// named are the charsets' names, the first ones first.
var named = []struct {
	charset api.Charset
	first   string
	second  string
}{
	{api.CharsetAscii, "US-ASCII", "ASCII"},
	{api.CharsetUtf8, "UTF-8", "UTF8"},
	{api.CharsetLatin1, "ISO-8859-1", "LATIN1"},
	{api.CharsetLatin9, "ISO-8859-15", "LATIN9"},
	{api.CharsetWindows, "WINDOWS-1252", "CP1252"},
}

// single are the charsets whose letters have one byte.
var single = []api.Charset{api.CharsetAscii, api.CharsetLatin1, api.CharsetLatin9, api.CharsetWindows}

// none are numbers of no charset.
var none = []api.Charset{api.CharsetNone, api.CharsetCount, api.CharsetCount + 1, 100, 255}

// letters are the edges of what is one, with their bytes.
var letters = []struct {
	letter int32
	bytes  string
}{
	{0, "\x00"}, {'a', "a"}, {0x7f, "\x7f"},
	{0x80, "\xc2\x80"}, {0xe9, "\xc3\xa9"}, {0x7ff, "\xdf\xbf"},
	{0x800, "\xe0\xa0\x80"}, {0x20ac, "\xe2\x82\xac"}, {0xd7ff, "\xed\x9f\xbf"}, {0xe000, "\xee\x80\x80"},
	{0xfffc, "\xef\xbf\xbc"}, {bad, "\xef\xbf\xbd"}, {0xfffe, "\xef\xbf\xbe"}, {0xffff, "\xef\xbf\xbf"},
	{0x10000, "\xf0\x90\x80\x80"}, {0x1f600, "\xf0\x9f\x98\x80"}, {0xfffff, "\xf3\xbf\xbf\xbf"}, {0x100000, "\xf4\x80\x80\x80"}, {0x10ffff, "\xf4\x8f\xbf\xbf"},
}

// noLetters are numbers of none.
var noLetters = []int32{-1, -0x61, math.MinInt32, 0xd800, 0xd801, 0xdbff, 0xdc00, 0xdfff, 0x110000, 0x110061, 0x1fffff, math.MaxInt32}

// letterOf tells a byte's letter, just as the chapter words it.
func letterOf(c api.Charset, b int) int32 {
	latin9 := map[int]int32{0xa4: 0x20ac, 0xa6: 0x160, 0xa8: 0x161, 0xb4: 0x17d, 0xb8: 0x17e, 0xbc: 0x152, 0xbd: 0x153, 0xbe: 0x178}
	windows := map[int]int32{
		0x80: 0x20ac, 0x81: bad, 0x82: 0x201a, 0x83: 0x192, 0x84: 0x201e, 0x85: 0x2026, 0x86: 0x2020, 0x87: 0x2021,
		0x88: 0x2c6, 0x89: 0x2030, 0x8a: 0x160, 0x8b: 0x2039, 0x8c: 0x152, 0x8d: bad, 0x8e: 0x17d, 0x8f: bad,
		0x90: bad, 0x91: 0x2018, 0x92: 0x2019, 0x93: 0x201c, 0x94: 0x201d, 0x95: 0x2022, 0x96: 0x2013, 0x97: 0x2014,
		0x98: 0x2dc, 0x99: 0x2122, 0x9a: 0x161, 0x9b: 0x203a, 0x9c: 0x153, 0x9d: bad, 0x9e: 0x17e, 0x9f: 0x178,
	}
	if l, is := latin9[b]; is && c == api.CharsetLatin9 {
		return l
	}
	if l, is := windows[b]; is && c == api.CharsetWindows {
		return l
	}
	if c == api.CharsetAscii && b >= 128 {
		return bad
	}
	return int32(b)
}

// shares tells whether two texts have a byte of memory together.
func shares(a, b string) bool {
	if a == "" || b == "" {
		return false
	}
	x, y := uintptr(unsafe.Pointer(unsafe.StringData(a))), uintptr(unsafe.Pointer(unsafe.StringData(b)))
	return x < y+uintptr(len(b)) && y < x+uintptr(len(a))
}

// 6.1
func TestCharsetsHaveNames(t *testing.T) {
	for _, n := range named {
		if s, errno := runes.Name(n.charset); s != n.first || errno != api.OK {
			t.Errorf("Name(%d) = %s, %d", n.charset, s, errno)
		}
		for _, name := range []string{n.first, n.second} {
			mixed := strings.ToLower(name[:2]) + name[2:3] + strings.ToLower(name[3:])
			for _, s := range []string{name, strings.ToLower(name), mixed} {
				if c, errno := runes.Named(s); c != n.charset || errno != api.OK {
					t.Errorf("Named(%s) = %d, %d", s, c, errno)
				}
			}
		}
	}
	if len(named) != int(api.CharsetCount)-1 {
		t.Errorf("there are names of %d charsets", len(named))
	}
}

// 6.1, P2
func TestWhatIsNoCharsetHasNoName(t *testing.T) {
	for _, s := range []string{
		"", "koi8-r", "US", "US-ASCI", "US-ASCII ", " US-ASCII", "US_ASCII", "USASCII", "us-ascii\x00", "ASCII8",
		"UTF", "UTF-", "UTF-16", "UTF_8", "utf-8\n", "\"utf-8\"", "UTF-88", "U\xd4F8",
		"ISO-8859", "ISO-8859-", "ISO-8859-2", "ISO-8859-14", "ISO-8859-150", "ISO8859-1", "LATIN-1", "LATIN", "LATIN2", "LATIN15", "L1",
		"WINDOWS-1251", "WINDOWS1252", "CP-1252", "CP1250", "1252",
		"u\u017f-ascii", "U\u017f-A\u017fCII", "A\u017fCII", "I\u017fO-8859-1", "\u0131so-8859-1", "LAT\u0130N1", "WINDOW\u017f-1252", "ut\uff46-8", // letters that are S and I elsewhere
		"\x35\x33\x0d\x01\x33\x23\x29\x29", "us\rascii", "UTF\r8", "utf\x188", "@TF-8", "[TF-8", "`tf8", "{tf8", "\xd5TF8",
		strings.Repeat("UTF-8", 100000),
	} {
		if c, errno := runes.Named(s); c != api.CharsetNone || errno != api.ErrCharset {
			t.Errorf("Named(%.20q) = %d, %d", s, c, errno)
		}
	}
	for _, c := range none {
		if s, errno := runes.Name(c); s != "" || errno != api.ErrCharset {
			t.Errorf("Name(%d) = %s, %d", c, s, errno)
		}
	}
}

// 6.2, P2, P3
func TestWhatIsNoCharsetHasNoLetters(t *testing.T) {
	for _, c := range none {
		for _, s := range []string{"", "a", "\xff"} {
			if l, errno := runes.Decode(c, s); len(l) != 0 || errno != api.ErrCharset {
				t.Errorf("Decode(%d, %q) = %x, %d", c, s, l, errno)
			}
		}
		for _, l := range [][]int32{nil, {'a'}, {-1}, {bad}} {
			if s, errno := runes.Encode(c, l); s != "" || errno != api.ErrCharset {
				t.Errorf("Encode(%d, %x) = %q, %d", c, l, s, errno)
			}
		}
	}
}

// 6.2
func TestEachByteHasItsLetter(t *testing.T) {
	for _, c := range single {
		var all []byte
		var want []int32
		for b := range 256 {
			all = append(all, byte(b))
			want = append(want, letterOf(c, b))
			one := string([]byte{byte(b)})
			if l, errno := runes.Decode(c, one); !slices.Equal(l, want[b:]) || errno != api.OK {
				t.Errorf("Decode(%d, %q) = %x, %d, not %x", c, one, l, errno, want[b])
			}
		}
		if l, errno := runes.Decode(c, string(all)); !slices.Equal(l, want) || errno != api.OK {
			t.Errorf("in %d all bytes are %x, %d", c, l, errno)
		}
	}
}

// 6.2, P2
func TestEachLetterHasItsByteOrNone(t *testing.T) {
	for _, c := range single {
		bytes := map[int32]string{}
		for b := range 256 {
			if l := letterOf(c, b); l != bad {
				bytes[l] = string([]byte{byte(b)})
			}
		}
		for l := int32(-0x300); l < 0x3000; l++ {
			s, errno := runes.Encode(c, []int32{l})
			if want, is := bytes[l]; is && (s != want || errno != api.OK) || !is && (s != "" || errno != api.ErrCode) {
				t.Errorf("Encode(%d, %x) = %q, %d", c, l, s, errno)
			}
		}
		wrong := append(slices.Clone(noLetters), bad, 0xfffc, 0xffff, 0x10ffff, 0x10000, 0x10061)
		for _, l := range wrong {
			for _, all := range [][]int32{{l}, {'a', l}, {l, 'a'}, {'a', l, 'b', l}} {
				if s, errno := runes.Encode(c, all); s != "" || errno != api.ErrCode {
					t.Errorf("Encode(%d, %x) = %q, %d", c, all, s, errno)
				}
			}
		}
	}
}

// 6.2
func TestLettersInUtf8(t *testing.T) {
	var all []int32
	var text string
	for _, c := range letters {
		if l := runes.Letters(c.bytes); !slices.Equal(l, []int32{c.letter}) {
			t.Errorf("Letters(%q) = %x", c.bytes, l)
		}
		if l, errno := runes.Decode(api.CharsetUtf8, c.bytes); !slices.Equal(l, []int32{c.letter}) || errno != api.OK {
			t.Errorf("Decode(UTF-8, %q) = %x, %d", c.bytes, l, errno)
		}
		if s := runes.Utf8(c.letter); s != c.bytes {
			t.Errorf("Utf8(%x) = %q", c.letter, s)
		}
		if s, errno := runes.Encode(api.CharsetUtf8, []int32{c.letter}); s != c.bytes || errno != api.OK {
			t.Errorf("Encode(UTF-8, %x) = %q, %d", c.letter, s, errno)
		}
		all = append(all, c.letter)
		text += c.bytes
	}
	s, errno := runes.Encode(api.CharsetUtf8, all)
	if s != text || errno != api.OK || runes.Utf8(all...) != text || !slices.Equal(runes.Letters(text), all) {
		t.Errorf("all letters at once are %q, %d, and %q", s, errno, runes.Utf8(all...))
	}
}

// 6.2, P2
func TestWhatIsNoLetterIsBad(t *testing.T) {
	for _, l := range noLetters {
		if s := runes.Utf8(l); s != "\xef\xbf\xbd" {
			t.Errorf("Utf8(%x) = %q", l, s)
		}
		if s := runes.Utf8('a', l, 0xe9); s != "a\xef\xbf\xbd\xc3\xa9" {
			t.Errorf("Utf8(a, %x, e9) = %q", l, s)
		}
		for _, all := range [][]int32{{l}, {'a', l}, {l, 'a'}, {bad, l}} {
			if s, errno := runes.Encode(api.CharsetUtf8, all); s != "" || errno != api.ErrCode {
				t.Errorf("Encode(UTF-8, %x) = %q, %d", all, s, errno)
			}
		}
	}
}

// 6.2: bytes that are more than will do, that end too soon, that are of no letter, or with which none begins.
func TestBytesOfNoLetterAreBadOneByOne(t *testing.T) {
	for _, s := range []string{
		"\x80", "\xbf", "\xc0", "\xc1", "\xf5", "\xf8", "\xfe", "\xff",
		"\xc0\x80", "\xc0\xaf", "\xc1\xbf",
		"\xe0\x80\x80", "\xe0\x81\xbf", "\xe0\x9f\xbf",
		"\xf0\x80\x80\x80", "\xf0\x82\x82\xac", "\xf0\x8f\xbf\xbf",
		"\xed\xa0\x80", "\xed\xaf\xbf", "\xed\xb0\x80", "\xed\xbf\xbf", "\xed\xa0\xbd\xed\xb8\x80",
		"\xf4\x90\x80\x80", "\xf5\x80\x80\x80", "\xf7\xbf\xbf\xbf", "\xf8\x88\x80\x80\x80", "\xfc\x84\x80\x80\x80\x80",
		"\xc3", "\xe2", "\xe2\x82", "\xf0", "\xf0\x9f", "\xf0\x9f\x98", "\xf4\x8f\xbf",
		"\xe2\x82\xe2\x82", "\xf0\x9f\x98\xf0\x9f\x98", "\x80\x80\x80\x80",
	} {
		want := slices.Repeat([]int32{bad}, len(s))
		if l := runes.Letters(s); !slices.Equal(l, want) {
			t.Errorf("Letters(%q) = %x", s, l)
		}
		want = append(append([]int32{'a', 0xe9}, want...), 'b')
		if l, errno := runes.Decode(api.CharsetUtf8, "a\xc3\xa9"+s+"b"); !slices.Equal(l, want) || errno != api.OK {
			t.Errorf("with %q in the middle: %x, %d", s, l, errno)
		}
	}
	for _, c := range []struct {
		bytes string
		want  []int32
	}{
		{"\xe2\xc3\xa9", []int32{bad, 0xe9}},
		{"\xe2\x82\xc3\xa9", []int32{bad, bad, 0xe9}},
		{"\xf0\x9f\xe2\x82\xac", []int32{bad, bad, 0x20ac}},
		{"\xc3\xa9\xa9", []int32{0xe9, bad}},
		{"\xff\xef\xbf\xbd", []int32{bad, bad}},
		{"\xef\xbb\xbfa", []int32{0xfeff, 'a'}},
		{"", nil},
	} {
		if l := runes.Letters(c.bytes); !slices.Equal(l, c.want) {
			t.Errorf("Letters(%q) = %x, not %x", c.bytes, l, c.want)
		}
	}
}

// 6.2
func TestNoLettersAreNoBytes(t *testing.T) {
	if s := runes.Utf8(); s != "" {
		t.Errorf("Utf8() = %q", s)
	}
	for c := api.CharsetAscii; c < api.CharsetCount; c++ {
		for _, l := range [][]int32{nil, {}} {
			if s, errno := runes.Encode(c, l); s != "" || errno != api.OK {
				t.Errorf("Encode(%d, nothing) = %q, %d", c, s, errno)
			}
		}
		if l, errno := runes.Decode(c, ""); len(l) != 0 || errno != api.OK {
			t.Errorf("Decode(%d, nothing) = %x, %d", c, l, errno)
		}
	}
}

// 6.3
func TestAnswersAreNewMemory(t *testing.T) {
	for c := api.CharsetAscii; c < api.CharsetCount; c++ {
		one, _ := runes.Name(c)
		two, _ := runes.Name(c)
		if shares(one, two) {
			t.Errorf("what Name(%d) tells shares its memory", c)
		}
		for _, all := range [][]int32{{'a'}, {'a', 'b', 'c'}} {
			given := slices.Clone(all)
			x, _ := runes.Encode(c, given)
			y, _ := runes.Encode(c, given)
			if shares(x, y) || shares(runes.Utf8(given...), runes.Utf8(given...)) {
				t.Errorf("the bytes of %x in %d share their memory", all, c)
			}
			l, _ := runes.Decode(c, x)
			m, _ := runes.Decode(c, x)
			l[0] = 77
			if m[0] != 'a' || !slices.Equal(given, all) || x[0] != 'a' {
				t.Errorf("the letters %x in %d share their memory, or are changed", all, c)
			}
		}
	}
	l, m := runes.Letters("ab"), runes.Letters("ab")
	l[0] = 77
	if m[0] != 'a' {
		t.Error("what Letters tells shares its memory")
	}
}

// 6.4
func TestThereAndBack(t *testing.T) {
	r := rand.New(rand.NewSource(1))
	for range 3000 {
		for c := api.CharsetAscii; c < api.CharsetCount; c++ {
			var l []int32
			for range r.Intn(20) {
				switch letter := letterOf(c, r.Intn(256)); {
				case c == api.CharsetUtf8:
					l = append(l, letters[r.Intn(len(letters))].letter)
				case letter != bad:
					l = append(l, letter)
				}
			}
			s, errno := runes.Encode(c, l)
			if errno != api.OK {
				t.Fatalf("Encode(%d, %x): %d", c, l, errno)
			}
			if back, errno := runes.Decode(c, s); !slices.Equal(back, l) || errno != api.OK {
				t.Fatalf("%x in %d are %q, and %x, %d", l, c, s, back, errno)
			}
			if c == api.CharsetUtf8 && (runes.Utf8(l...) != s || !slices.Equal(runes.Letters(s), l)) {
				t.Fatalf("%x are %q", l, s)
			}
		}
	}
}

// 6.4
func TestEveryLetterThereAndBack(t *testing.T) {
	for l := int32(0); l <= 0x10ffff; l++ {
		if l >= 0xd800 && l <= 0xdfff {
			continue
		}
		many := 4
		switch {
		case l < 0x80:
			many = 1
		case l < 0x800:
			many = 2
		case l < 0x10000:
			many = 3
		}
		s := runes.Utf8(l)
		if back := runes.Letters(s); len(s) != many || len(back) != 1 || back[0] != l {
			t.Fatalf("%x is %q, and %x", l, s, back)
		}
	}
}

// 6.5, P1 to P4
func TestAnyBytesHaveLetters(t *testing.T) {
	ahead := runtime.NumGoroutine()
	r := rand.New(rand.NewSource(2))
	const some = "\xc3\xa9\xe2\x82\xac\xf0\x9f\x98\x80\xed\xa0\xf4\x8f\x90a"
	for range 20000 {
		b := make([]byte, r.Intn(12))
		for i := range b {
			if b[i] = byte(r.Intn(256)); r.Intn(3) > 0 {
				b[i] = some[r.Intn(len(some))]
			}
		}
		s, c := string(b), api.Charset(r.Intn(9))
		l, errno := runes.Decode(c, s)
		again, same := runes.Decode(c, s)
		if len(l) > len(s) || !slices.Equal(l, again) || errno != same || errno != api.OK && len(l) != 0 {
			t.Fatalf("Decode(%d, %q) = %x, %d", c, s, l, errno)
		}
		if c != api.CharsetUtf8 && errno == api.OK && len(l) != len(s) {
			t.Fatalf("Decode(%d, %q) = %x", c, s, l)
		}
		if want := []int32([]rune(s)); !slices.Equal(runes.Letters(s), want) {
			t.Fatalf("Letters(%q) = %x, not %x", s, runes.Letters(s), want)
		}
		runes.Named(s)
	}
	for range 20000 {
		l := []int32{int32(r.Uint32() >> r.Intn(33)), int32(r.Uint32()) << r.Intn(33)}
		c := api.Charset(r.Intn(9))
		s, errno := runes.Encode(c, l)
		if back, _ := runes.Decode(c, s); errno == api.OK && !slices.Equal(back, l) || errno != api.OK && s != "" {
			t.Fatalf("Encode(%d, %x) = %q, %d", c, l, s, errno)
		}
		if s := runes.Utf8(l...); utf8.RuneCountInString(s) != len(l) || !utf8.ValidString(s) {
			t.Fatalf("Utf8(%x) = %q", l, s)
		}
	}
	if behind := runtime.NumGoroutine(); behind > ahead { // fewer, if that of an earlier test was just ending
		t.Errorf("%d goroutines ahead, %d behind", ahead, behind)
	}
}
