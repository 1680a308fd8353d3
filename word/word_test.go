package word_test

import (
	"encoding/base64"
	"math/rand"
	"regexp"
	"runtime"
	"slices"
	"strconv"
	"strings"
	"testing"
	"unsafe"

	"missive/api"
	"missive/runes"
	"missive/word"
)

const bad = api.Bad

// The signatures that the chapter lists.
var (
	_ func(string) []int32                      = word.Decode
	_ func(string) int                          = word.Words
	_ func([]int32, bool) (string, api.Errno)   = word.Encode
	_ func(string) ([]int32, string, api.Errno) = word.One
)

// single are words, each whole, and their letters.
var single = []struct {
	word    string
	letters []int32
}{
	{"=?utf-8?q?a?=", of("a")},
	{"=?utf-8?Q?a?=", of("a")},
	{"=?utf-8?b?YQ==?=", of("a")},
	{"=?utf-8?B?YQ==?=", of("a")},
	{"=?UTF-8?q?a_b?=", of("a b")},
	// texts without bytes
	{"=?utf-8?q??=", nil},
	{"=?utf-8?Q??=", nil},
	{"=?utf-8?b??=", nil},
	{"=?utf-8?B??=", nil},
	// charsets, all of their names
	{"=?us-ascii?q?a=E9?=", []int32{'a', bad}},
	{"=?Ascii?q?a=E9?=", []int32{'a', bad}},
	{"=?utf-8?q?=C3=A9?=", []int32{0xe9}},
	{"=?uTf8?q?=C3=A9?=", []int32{0xe9}},
	{"=?iso-8859-1?q?=E9=A4=80?=", []int32{0xe9, 0xa4, 0x80}},
	{"=?LATIN1?q?=E9=A4=80?=", []int32{0xe9, 0xa4, 0x80}},
	{"=?ISO-8859-15?q?=E9=A4=80?=", []int32{0xe9, 0x20ac, 0x80}},
	{"=?latin9?q?=E9=A4=80?=", []int32{0xe9, 0x20ac, 0x80}},
	{"=?windows-1252?q?=E9=A4=80?=", []int32{0xe9, 0xa4, 0x20ac}},
	{"=?cp1252?q?=E9=A4=80?=", []int32{0xe9, 0xa4, 0x20ac}},
	{"=?latin1?B?6Q==?=", []int32{0xe9}},
	{"=?cp1252?B?gOk=?=", []int32{0x20ac, 0xe9}},
	{"=?us-ascii?b?6Q==?=", []int32{bad}},
	// names with a star and more behind it
	{"=?latin1*en?B?6Q==?=", []int32{0xe9}},
	{"=?utf-8*EN-us?q?a?=", of("a")},
	{"=?utf-8*a*b?q?a?=", of("a")},
	{"=?utf-8**?q?a?=", of("a")},
	{"=?utf-8*=!~?q?a?=", of("a")},
	{"=?utf-8*koi8?q?a?=", of("a")},
	{"=?utf-8*?q?a?=", of("a")},
	// texts of Q
	{"=?utf-8?q?_?=", of(" ")},
	{"=?utf-8?q?__a__?=", of("  a  ")},
	{"=?utf-8?q?=5F?=", of("_")},
	{"=?utf-8?q?=5f=3d=3D=3F?=", of("_==?")},
	{"=?utf-8?q?=c3=A9=C3=a9?=", []int32{0xe9, 0xe9}},
	{"=?utf-8?q?=20=09=0A=0d=00?=", of(" \t\n\r\x00")},
	{"=?utf-8?q?!\"#$%&'()*+,-./09:;<>@AZ[\\]^`az{|}~?=", of("!\"#$%&'()*+,-./09:;<>@AZ[\\]^`az{|}~")},
	{"=?utf-8?q?YQ?=", of("YQ")},
	{"=?utf-8?q?=C3?=", []int32{bad}},
	{"=?utf-8?q?=C3=28=E2=82?=", []int32{bad, '(', bad, bad}},
	{"=?utf-8?q?=C3_=A9?=", []int32{bad, ' ', bad}},
	{"=?utf-8?q?=FF=EF=BF=BD?=", []int32{bad, bad}},
	{"=?utf-8?q?=F0=9F=98=80?=", []int32{0x1f600}},
	{"=?utf-8?q?=ED=A0=80?=", []int32{bad, bad, bad}},
	// texts of B
	{"=?utf-8?b?YWI=?=", of("ab")},
	{"=?utf-8?b?YWJj?=", of("abc")},
	{"=?utf-8?b?w6k=?=", []int32{0xe9}},
	{"=?utf-8?b?/+8+?=", []int32{bad, bad, '>'}},
	{"=?utf-8?b?AA==?=", []int32{0}},
	{"=?utf-8?b?PT8=?=", of("=?")},
}

// none are texts that look like words, and that neither are words nor have any.
var none = []string{
	// pieces that are missing
	"", "=", "?", "=?", "?=", "=?=", "=??=", "=???=", "=????=", "=?????=",
	"=?utf-8", "=?utf-8?", "=?utf-8?q", "=?utf-8?q?", "=?utf-8?q?a", "=?utf-8?q?a?", "=?utf-8?q?a=", "=?utf-8?q?a??", "=?utf-8?q?a?a=",
	"=utf-8?q?a?=", "?utf-8?q?a?=", "utf-8?q?a?=", "= ?utf-8?q?a?=", "=?utf-8?q?a? =", "=?utf-8?a?=", "=?q?a?=", "=?utf-8?q=?=",
	// codings that there are not
	"=?utf-8??a?=", "=?utf-8?x?a?=", "=?utf-8?bb?YQ==?=", "=?utf-8?qb?a?=", "=?utf-8? q?a?=", "=?utf-8?q ?a?=", "=?utf-8?8?a?=", "=?utf-8?\xd1?a?=", "=?utf-8?\x11?a?=", "=?utf-8?1?a?=",
	// charsets that there are not
	"=??q?a?=", "=?koi8?q?a?=", "=?koi8-r?b?YQ==?=", "=?utf-9?q?a?=", "=?utf?q?a?=", "=?utf-88?q?a?=", "=?*?q?a?=", "=?*en?q?a?=", "=?en*utf-8?q?a?=", "=?utf-8'en'?q?a?=", "=?\"utf-8\"?q?a?=", "=?a\u017fcii?q?a?=",
	// bytes that a name must not have
	"=? utf-8?q?a?=", "=?utf-8 ?q?a?=", "=?utf -8?q?a?=", "=?utf-8\t?q?a?=", "=?utf-8*e n?q?a?=", "=?utf-8*\xc3\xa9?q?a?=", "=?utf-8*\x7f?q?a?=", "=?utf-8*\x00?q?a?=", "=?utf-8*en\n?q?a?=", "=?utf-8* ?q?a?=", "=?utf-8\x00?q?a?=",
	// bytes that a text must not have
	"=?utf-8?q? ?=", "=?utf-8?q?a b?=", "=?utf-8?q?a ?=", "=?utf-8?q?\t?=", "=?utf-8?q?a\nb?=", "=?utf-8?q?a\r\n?=", "=?utf-8?q?\xc3\xa9?=", "=?latin1?q?\xe9?=", "=?utf-8?q?\x7f?=", "=?utf-8?q?\x00?=", "=?utf-8?q?\x1f?=", "=?utf-8?q?\x80?=", "=?utf-8?q?\xff?=", "=?utf-8?q?a?b?=", "=?utf-8?q???=",
	"=?utf-8?b?YQ== ?=", "=?utf-8?b? YQ==?=", "=?utf-8?b?YW Jj?=", "=?utf-8?b?YW\nJj?=",
	// an = without its digits
	"=?utf-8?q?=?=", "=?utf-8?q?a=?=", "=?utf-8?q?=4?=", "=?utf-8?q?=4G?=", "=?utf-8?q?=G4?=", "=?utf-8?q?==41?=", "=?utf-8?q?=4=41?=", "=?utf-8?q?=_1?=", "=?utf-8?q?=1_?=", "=?utf-8?q?=+1?=", "=?utf-8?q?=-1?=", "=?utf-8?q?=0x41?=", "=?utf-8?q?=41=?=", "=?utf-8?q?=41=4?=", "=?utf-8?q?a=zz?=", "=?utf-8?q?=:0?=", "=?utf-8?q?=@A?=", "=?utf-8?q?=`a?=",
	// base64 that is not strict
	"=?utf-8?b?Y?=", "=?utf-8?b?YQ?=", "=?utf-8?b?YQ=?=", "=?utf-8?b?YQ===?=", "=?utf-8?b?YR==?=", "=?utf-8?b?YWJ=?=", "=?utf-8?b?YWI?=", "=?utf-8?b?YQ==YQ==?=", "=?utf-8?b?=?=", "=?utf-8?b?====?=", "=?utf-8?b?YQ-_?=", "=?utf-8?b?YQ=A?=", "=?utf-8?b?Y!Q==?=", "=?utf-8?b?a_b?=",
}

// values are such, their letters, and how many words are taken in them.
var values = []struct {
	value   string
	letters []int32
	words   int
}{
	{"", nil, 0},
	{" ", of(" "), 0},
	{"plain", of("plain"), 0},
	{"=?utf-8?q?a_b?=  =?latin1?B?6Q==?= x", []int32{'a', ' ', 'b', 0xe9, ' ', 'x'}, 2},
	// with nothing between
	{"=?utf-8?q?a?==?utf-8?q?b?=", of("ab"), 2},
	{"=?utf-8?b?YQ==?==?utf-8?b?Yg==?==?utf-8?q?c?=", of("abc"), 3},
	// with spaces and tabs between
	{"=?utf-8?q?a?= =?utf-8?q?b?=", of("ab"), 2},
	{"=?utf-8?q?a?=\t=?utf-8?q?b?=", of("ab"), 2},
	{"=?utf-8?q?a?= \t  \t\t=?utf-8?q?b?= =?utf-8?q?c?=\t=?utf-8?q?d?=", of("abcd"), 4},
	{"=?utf-8?q?a_?= =?utf-8?q?_b?=", of("a  b"), 2},
	{"=?utf-8?q?a?=" + strings.Repeat(" ", 5000) + "=?utf-8?q?b?=", of("ab"), 2},
	// with words that have no letters between
	{"=?utf-8?q?a?= =?utf-8?q??= =?utf-8?q?b?=", of("ab"), 3},
	{"=?utf-8?q??= =?utf-8?b??=", nil, 2},
	{" =?utf-8?q??= ", of("  "), 1},
	// with other bytes between
	{"=?utf-8?q?a?=x=?utf-8?q?b?=", of("axb"), 2},
	{"=?utf-8?q?a?= x =?utf-8?q?b?=", of("a x b"), 2},
	{"=?utf-8?q?a?= \t, \t=?utf-8?q?b?=", of("a \t, \tb"), 2},
	{"=?utf-8?q?a?= \n =?utf-8?q?b?=", of("a \n b"), 2},
	{"=?utf-8?q?a?=\r\n=?utf-8?q?b?=", of("a\r\nb"), 2},
	{"=?utf-8?q?a?= \v =?utf-8?q?b?=", of("a \v b"), 2},
	{"=?utf-8?q?a?=\xc2\xa0=?utf-8?q?b?=", []int32{'a', 0xa0, 'b'}, 2},
	{"=?utf-8?q?a?= \x00 =?utf-8?q?b?=", of("a \x00 b"), 2},
	// ahead of the first one, and behind the last one
	{"  =?utf-8?q?a?=", of("  a"), 1},
	{"=?utf-8?q?a?=  ", of("a  "), 1},
	{"\t=?utf-8?q?a?= =?utf-8?q?b?=\t", of("\tab\t"), 2},
	{"x =?utf-8?q?a?= y", of("x a y"), 1},
	{"x=?utf-8?q?a?=y", of("xay"), 1},
	{"(=?utf-8?q?a?=)", of("(a)"), 1},
	{"\"=?utf-8?q?a?=\" <a@b>", of("\"a\" <a@b>"), 1},
	// beside what is none
	{"=?utf-8?q?a?= =?koi8?q?b?= =?utf-8?q?c?=", of("a =?koi8?q?b?= c"), 2},
	{"=?koi8?q?a?= =?utf-8?q?b?=", of("=?koi8?q?a?= b"), 1},
	{"=?utf-8?q?a?= =?utf-8?q?=?=", of("a =?utf-8?q?=?="), 1},
	{"=?utf-8?q?a=?= =?utf-8?q?b?=", of("=?utf-8?q?a=?= b"), 1},
	{"=?utf-8?q?a=?utf-8?q?b?=", of("=?utf-8?q?ab"), 1},
	{"=?utf-8?=?utf-8?q?a?=", of("=?utf-8?a"), 1},
	{"=?=?utf-8?q?a?=", of("=?a"), 1},
	{"==?utf-8?q?a?==", of("=a="), 1},
	{"=?utf-8?q?=?utf-8?q??=", of("=?utf-8?q?"), 1},
	{"=?utf-8?q?a?=?=", of("a?="), 1},
	{"=?utf-8?q?a?=?utf-8?q?b?=", of("a?utf-8?q?b?="), 1},
	{"=?utf-8?q?a?q?b?=", of("=?utf-8?q?a?q?b?="), 0},
	{"=?utf-8?q?=3D=3Futf-8=3Fq=3Fa=3F=3D?=", of("=?utf-8?q?a?="), 1},
	{"=?utf-8?q?=3D?=?utf-8?q?a?=", of("=?utf-8?q?a?="), 1},
	// bytes of no letter, run by run
	{"\xff=?utf-8?q?a?=\xc3", []int32{bad, 'a', bad}, 1},
	{"\xc3=?utf-8?q?a?=\xa9", []int32{bad, 'a', bad}, 1},
	{"\xc3=?utf-8?q??=\xa9", []int32{bad, bad}, 1},
	{"=?utf-8?q?=C3?=\xa9", []int32{bad, bad}, 1},
	{"\xc3=?utf-8?q?=A9?=", []int32{bad, bad}, 1},
	{"=?utf-8?q?=C3?= =?utf-8?q?=A9?=", []int32{bad, bad}, 2},
	{"=?utf-8?b?4oI=?==?utf-8?b?rA==?=", []int32{bad, bad, bad}, 2},
	{"=?utf-8?q?a?= \xe2\x82 =?utf-8?q?b?=", []int32{'a', ' ', bad, bad, ' ', 'b'}, 2},
	{"\xc3\xa9 =?latin1?q?=E9?= \xe2\x82\xac", []int32{0xe9, ' ', 0xe9, ' ', 0x20ac}, 1},
}

// of tells the letters of a text in ASCII.
func of(s string) []int32 {
	var l []int32
	for i := range len(s) {
		l = append(l, int32(s[i]))
	}
	return l
}

// same takes nothing and an empty list as one.
func same(a, b []int32) bool {
	return slices.Equal(a, b)
}

// charsets are the names that the slow reading knows.
var charsets = map[string]api.Charset{
	"us-ascii": api.CharsetAscii, "ascii": api.CharsetAscii, "utf-8": api.CharsetUtf8, "utf8": api.CharsetUtf8,
	"iso-8859-1": api.CharsetLatin1, "latin1": api.CharsetLatin1, "iso-8859-15": api.CharsetLatin9, "latin9": api.CharsetLatin9,
	"windows-1252": api.CharsetWindows, "cp1252": api.CharsetWindows,
}

var (
	slowFrame = regexp.MustCompile(`^=\?([!->@-~]+)\?([bBqQ])\?([!->@-~]*)\?=`)
	slowStar  = regexp.MustCompile(`\*.*$`)
	slowQ     = regexp.MustCompile(`^(?:=[0-9A-Fa-f]{2}|[^=])*$`)
	slowHex   = regexp.MustCompile(`=..|_`)
	slowGap   = regexp.MustCompile(`^[ \t]*$`)
)

// slowOne reads one word as the chapter words it: its pieces are found by patterns; its length is 0, if there is none.
func slowOne(s string) ([]int32, int) {
	m := slowFrame.FindStringSubmatch(s)
	if m == nil {
		return nil, 0
	}
	c, is := charsets[strings.ToLower(slowStar.ReplaceAllString(m[1], ""))]
	if !is {
		return nil, 0
	}
	var text string
	if m[2] == "b" || m[2] == "B" {
		b, err := base64.StdEncoding.DecodeString(m[3])
		if err != nil || base64.StdEncoding.EncodeToString(b) != m[3] {
			return nil, 0
		}
		text = string(b)
	} else {
		if !slowQ.MatchString(m[3]) {
			return nil, 0
		}
		text = slowHex.ReplaceAllStringFunc(m[3], func(one string) string {
			if one == "_" {
				return " "
			}
			n, _ := strconv.ParseUint(one[1:], 16, 8)
			return string([]byte{byte(n)})
		})
	}
	l, _ := runes.Decode(c, text)
	return l, len(m[0])
}

// slowDecode tries each place of a value, and takes blanks between two words away in the end.
func slowDecode(s string) ([]int32, int) {
	type piece struct {
		letters []int32
		text    string
		isWord  bool
	}
	var pieces []piece
	for at := 0; at < len(s); {
		if l, size := slowOne(s[at:]); size > 0 {
			pieces = append(pieces, piece{letters: l, isWord: true})
			at += size
			continue
		}
		if len(pieces) == 0 || pieces[len(pieces)-1].isWord {
			pieces = append(pieces, piece{})
		}
		pieces[len(pieces)-1].text += s[at : at+1]
		at++
	}
	var l []int32
	words := 0
	for i, p := range pieces {
		switch {
		case p.isWord:
			l = append(l, p.letters...)
			words++
		case i > 0 && i < len(pieces)-1 && slowGap.MatchString(p.text):
		default:
			l = append(l, []rune(p.text)...)
		}
	}
	return l, words
}

// random tells a value of pieces that mean something.
func random(r *rand.Rand, most int) string {
	some := []string{
		"=?", "=?", "=?", "?=", "?=", "?", "?", "=", "_", "*", "utf-8", "latin1", "koi8", "q", "Q", "b", "B",
		"a", "YQ==", "YQ", "w6k=", "=C3=A9", "=e9", "=4", " ", "  ", "\t", "\n", "\xc3", "\xa9", "\xff", "\x00", "\x7f",
		"=?utf-8?q?", "=?latin1?b?", "=?utf-8*en?Q?", "=?utf-8?q?a?=", "=?cp1252?B?gA==?=", "=?utf8?q??=", "?= =?", "?==?",
	}
	var b strings.Builder
	for range r.Intn(most) {
		b.WriteString(some[r.Intn(len(some))])
	}
	return b.String()
}

// randomLetters tells letters, most of them of those that mean something.
func randomLetters(r *rand.Rand, most int) []int32 {
	some := []int32{'a', 'Z', '0', ' ', ' ', '\t', '\n', '=', '?', '_', '!', '~', 0, 0x7f, 0x80, 0xe9, 0x7ff, 0x800, 0x20ac, 0xd7ff, 0xe000, bad, 0xffff, 0x10000, 0x1f600, 0x10ffff}
	var l []int32
	for range r.Intn(most) {
		n := some[r.Intn(len(some))]
		if c := r.Int31n(0x110000); r.Intn(4) == 0 && (c < 0xd800 || c > 0xdfff) {
			n = c
		}
		l = append(l, n)
	}
	return l
}

// shares tells whether two texts have a byte of memory together.
func shares(a, b string) bool {
	if a == "" || b == "" {
		return false
	}
	x, y := uintptr(unsafe.Pointer(unsafe.StringData(a))), uintptr(unsafe.Pointer(unsafe.StringData(b)))
	return x < y+uintptr(len(b)) && y < x+uintptr(len(a))
}

// 9.1
func TestOneWord(t *testing.T) {
	for _, c := range single {
		for _, rest := range []string{"", " ", "=", "?=", "a", "=?utf-8?q?b?=", " x", "\xff"} {
			l, behind, errno := word.One(c.word + rest)
			if !same(l, c.letters) || behind != rest || errno != api.OK {
				t.Errorf("One(%q) = %x, %q, %d", c.word+rest, l, behind, errno)
			}
		}
		if l := word.Decode(c.word); !same(l, c.letters) || word.Words(c.word) != 1 {
			t.Errorf("Decode(%q) = %x, of %d words", c.word, l, word.Words(c.word))
		}
		want := slices.Concat(of("x "), c.letters, of(" y"))
		if l := word.Decode("x " + c.word + " y"); !same(l, want) || word.Words("x "+c.word+" y") != 1 {
			t.Errorf("Decode(x %q y) = %x", c.word, l)
		}
	}
}

// 9.1, P2
func TestWhatLooksLikeAWordIsNone(t *testing.T) {
	for _, s := range none {
		if l, behind, errno := word.One(s); len(l) != 0 || behind != "" || errno != api.ErrCode {
			t.Errorf("One(%q) = %x, %q, %d", s, l, behind, errno)
		}
		if l := word.Decode(s); !same(l, runes.Letters(s)) || word.Words(s) != 0 {
			t.Errorf("Decode(%q) = %x, of %d words", s, l, word.Words(s))
		}
		two := "=?utf-8?q?x?= " + s + " =?utf-8?q?y?="
		want := slices.Concat(of("x "), runes.Letters(s), of(" y"))
		if s == "" {
			want = of("xy")
		}
		if l := word.Decode(two); !same(l, want) || word.Words(two) != 2 {
			t.Errorf("Decode(%q) = %x, of %d words", two, l, word.Words(two))
		}
	}
}

// 9.1: a word that stands later is none that s begins with.
func TestOneIsAtTheBeginning(t *testing.T) {
	for _, ahead := range []string{" ", "\t", "a", "=", "?", "=?", "\x00", "=?koi8?q?a?="} {
		if l, behind, errno := word.One(ahead + "=?utf-8?q?a?="); len(l) != 0 || behind != "" || errno != api.ErrCode {
			t.Errorf("with %q ahead: %x, %q, %d", ahead, l, behind, errno)
		}
	}
}

// 9.1
func TestEachByteIsOneOfAWordOrNot(t *testing.T) {
	for c := range 256 {
		one := string([]byte{byte(c)})
		is := c >= 33 && c <= 126 && c != '?'
		_, _, errno := word.One("=?utf-8*x" + one + "x?q?a?=")
		if (errno == api.OK) != is {
			t.Errorf("in a name %q: %d", one, errno)
		}
		l, _, errno := word.One("=?latin1?q?x" + one + "41?=")
		want := of("x" + one + "41")
		switch one {
		case "=":
			want = of("xA")
		case "_":
			want = of("x 41")
		}
		if (errno == api.OK) != is || is && !same(l, want) {
			t.Errorf("in a text of Q %q: %x, %d", one, l, errno)
		}
		inner := strings.Contains("ABCDEFGHIJKLMNOPQRSTUVWXYZabcdefghijklmnopqrstuvwxyz0123456789+/", one)
		if _, _, errno = word.One("=?latin1?b?AA" + one + "A?="); (errno == api.OK) != inner {
			t.Errorf("in a text of B %q: %d", one, errno)
		}
		if _, _, errno = word.One("=?latin1?" + one + "?YQ==?="); (errno == api.OK) != (one == "b" || one == "B") {
			t.Errorf("as a coding %q: %d", one, errno)
		}
		if _, _, errno = word.One("=?latin1?" + one + "?a?="); (errno == api.OK) != (one == "q" || one == "Q") {
			t.Errorf("as a coding %q: %d", one, errno)
		}
	}
}

// 9.1
func TestEachTwoBytesBehindAnEqualsSign(t *testing.T) {
	const great, small = "0123456789ABCDEF", "0123456789abcdef"
	number := func(c int) int {
		return max(strings.IndexByte(great, byte(c)), strings.IndexByte(small, byte(c)))
	}
	for a := range 256 {
		for b := range 256 {
			s := "=?latin1?q?=" + string([]byte{byte(a), byte(b)}) + "?="
			l, _, errno := word.One(s)
			if x, y := number(a), number(b); x >= 0 && y >= 0 {
				if errno != api.OK || !same(l, []int32{int32(16*x + y)}) {
					t.Errorf("One(%q) = %x, %d", s, l, errno)
				}
			} else if errno != api.ErrCode {
				t.Errorf("One(%q) = %x, %d", s, l, errno)
			}
		}
	}
}

// 9.1
func TestValues(t *testing.T) {
	for _, c := range values {
		if l := word.Decode(c.value); !same(l, c.letters) {
			t.Errorf("Decode(%q) = %x, not %x", c.value, l, c.letters)
		}
		if many := word.Words(c.value); many != c.words {
			t.Errorf("Words(%q) = %d, not %d", c.value, many, c.words)
		}
	}
}

// 9.1
func TestAllIsAsItIsWorded(t *testing.T) {
	r := rand.New(rand.NewSource(1))
	found := 0
	for range 60000 {
		s := random(r, 14)
		want, words := slowDecode(s)
		if l := word.Decode(s); !same(l, want) || word.Words(s) != words {
			t.Fatalf("Decode(%q) = %x, of %d words, not %x, of %d", s, l, word.Words(s), want, words)
		}
		want, size := slowOne(s)
		l, rest, errno := word.One(s)
		if size == 0 && (len(l) != 0 || rest != "" || errno != api.ErrCode) || size > 0 && (!same(l, want) || rest != s[size:] || errno != api.OK) {
			t.Fatalf("One(%q) = %x, %q, %d, not %x, of %d bytes", s, l, rest, errno, want, size)
		}
		found += words
	}
	if found < 10000 {
		t.Errorf("there were %d words alone", found)
	}
}

// 9.2
func TestEncode(t *testing.T) {
	for _, c := range []struct {
		letters []int32
		q, b    string
	}{
		{nil, "", ""},
		{[]int32{}, "", ""},
		{of("a"), "=?UTF-8?Q?a?=", "=?UTF-8?B?YQ==?="},
		{[]int32{'a', ' ', 0xe9}, "=?UTF-8?Q?a_=C3=A9?=", "=?UTF-8?B?YSDDqQ==?="},
		{of("azAZ09"), "=?UTF-8?Q?azAZ09?=", "=?UTF-8?B?YXpBWjA5?="},
		{of(" "), "=?UTF-8?Q?_?=", "=?UTF-8?B?IA==?="},
		{of("_=?"), "=?UTF-8?Q?=5F=3D=3F?=", "=?UTF-8?B?Xz0/?="},
		{of("!~@[`{/:"), "=?UTF-8?Q?=21=7E=40=5B=60=7B=2F=3A?=", "=?UTF-8?B?IX5AW2B7Lzo=?="},
		{of("\x00\t\r\n\x7f"), "=?UTF-8?Q?=00=09=0D=0A=7F?=", "=?UTF-8?B?AAkNCn8=?="},
		{[]int32{bad}, "=?UTF-8?Q?=EF=BF=BD?=", "=?UTF-8?B?77+9?="},
		{[]int32{0x10ffff, 0xd7ff, 0xe000}, "=?UTF-8?Q?=F4=8F=BF=BF=ED=9F=BF=EE=80=80?=", "=?UTF-8?B?9I+/v+2fv+6AgA==?="},
		{of("abcdefghijk"), "=?UTF-8?Q?abcdefghijk?=", "=?UTF-8?B?YWJjZGVmZ2hpams=?="},
		{of("abcdefghijkl"), "=?UTF-8?Q?abcdefghijkl?=", "=?UTF-8?B?YWJjZGVmZ2hpamts?="},
		{of("abcdefghijklm"), "=?UTF-8?Q?abcdefghijkl?= =?UTF-8?Q?m?=", "=?UTF-8?B?YWJjZGVmZ2hpamts?= =?UTF-8?B?bQ==?="},
		{of("abcdefghijklabcdefghijkl"), "=?UTF-8?Q?abcdefghijkl?= =?UTF-8?Q?abcdefghijkl?=", "=?UTF-8?B?YWJjZGVmZ2hpamts?= =?UTF-8?B?YWJjZGVmZ2hpamts?="},
		{of("abcdefghijklabcdefghijkl "), "=?UTF-8?Q?abcdefghijkl?= =?UTF-8?Q?abcdefghijkl?= =?UTF-8?Q?_?=", "=?UTF-8?B?YWJjZGVmZ2hpamts?= =?UTF-8?B?YWJjZGVmZ2hpamts?= =?UTF-8?B?IA==?="},
		{slices.Repeat([]int32{0x1f600}, 13), "=?UTF-8?Q?" + strings.Repeat("=F0=9F=98=80", 12) + "?= =?UTF-8?Q?=F0=9F=98=80?=", "=?UTF-8?B?" + strings.Repeat("8J+YgPCfmIDwn5iA", 4) + "?= =?UTF-8?B?8J+YgA==?="},
	} {
		if s, errno := word.Encode(c.letters, false); s != c.q || errno != api.OK {
			t.Errorf("Encode(%x, false) = %q, %d", c.letters, s, errno)
		}
		if s, errno := word.Encode(c.letters, true); s != c.b || errno != api.OK {
			t.Errorf("Encode(%x, true) = %q, %d", c.letters, s, errno)
		}
	}
}

// 9.2
func TestEachByteIsWrittenByItsRule(t *testing.T) {
	const itself = "ABCDEFGHIJKLMNOPQRSTUVWXYZabcdefghijklmnopqrstuvwxyz0123456789"
	for c := range int32(0x3000) {
		var want strings.Builder
		for _, b := range []byte(string([]rune{c})) {
			switch {
			case b == ' ':
				want.WriteByte('_')
			case strings.IndexByte(itself, b) >= 0:
				want.WriteByte(b)
			default:
				want.WriteString("=" + string("0123456789ABCDEF"[b/16]) + string("0123456789ABCDEF"[b%16]))
			}
		}
		if s, errno := word.Encode([]int32{c}, false); s != "=?UTF-8?Q?"+want.String()+"?=" || errno != api.OK {
			t.Errorf("Encode(%x, false) = %q, %d", c, s, errno)
		}
	}
}

// 9.2, P2
func TestEncodeRefusesWhatIsNoLetter(t *testing.T) {
	for _, n := range []int32{-1, -0x80000000, 0xd800, 0xdbff, 0xdc00, 0xdfff, 0x110000, 0x7fffffff} {
		for _, at := range []int{0, 1, 11, 12, 13, 24, 99} {
			for _, base := range []bool{false, true} {
				l := slices.Repeat(of("a"), 100)
				l[at] = n
				for _, some := range [][]int32{l, l[:at+1], l[at:]} {
					if s, errno := word.Encode(some, base); s != "" || errno != api.ErrCode {
						t.Errorf("with %x at %d: %q, %d", n, at, s, errno)
					}
				}
			}
		}
	}
}

// 9.2: how many letters each word has, whatever they are.
func TestWordsAreAsLongAsMayBe(t *testing.T) {
	r := rand.New(rand.NewSource(2))
	for range 3000 {
		l, base := randomLetters(r, 60), r.Intn(2) == 0
		s, errno := word.Encode(l, base)
		if errno != api.OK || word.Words(s) != (len(l)+11)/12 {
			t.Fatalf("Encode(%x, %v) = %q, %d", l, base, s, errno)
		}
		for left := l; len(left) > 0; {
			letters, rest, errno := word.One(s)
			many := min(len(left), 12)
			if errno != api.OK || !same(letters, left[:many]) {
				t.Fatalf("of %x a word is %x, %d", l, letters, errno)
			}
			if left = left[many:]; len(left) > 0 {
				if !strings.HasPrefix(rest, " =?") {
					t.Fatalf("between two words of %x is %q", l, rest)
				}
				rest = rest[1:]
			}
			s = rest
		}
		if s != "" {
			t.Fatalf("behind the words of %x is %q", l, s)
		}
	}
}

// 9.3
func TestAnswersAreNewMemory(t *testing.T) {
	value := strings.Clone("=?utf-8?q?abc?= and what is behind =?utf-8?q?x?=")
	kept := strings.Clone(value)
	l, one, _ := word.One(value)
	m, two, _ := word.One(value)
	if shares(one, two) || shares(one, value) || shares(two, value) {
		t.Error("what is behind a word shares its memory")
	}
	if l[0] = 77; m[0] != 'a' {
		t.Error("the letters of a word share their memory")
	}
	for _, s := range []string{value, "plain", "=?utf-8?q?abc?="} {
		x, y := word.Decode(s), word.Decode(s)
		want := slices.Clone(y)
		for i := range x {
			x[i] = 77
		}
		if !same(y, want) || !same(word.Decode(s), want) {
			t.Errorf("the letters of %q share their memory", s)
		}
	}
	if value != kept {
		t.Error("what is handed in is changed")
	}
	for _, base := range []bool{false, true} {
		given := of("abcdefghijklmnop")
		x, _ := word.Encode(given, base)
		y, _ := word.Encode(given, base)
		if shares(x, y) || !same(given, of("abcdefghijklmnop")) {
			t.Error("words share their memory, or letters are changed")
		}
	}
}

// 9.4
func TestThereAndBack(t *testing.T) {
	r := rand.New(rand.NewSource(3))
	for range 20000 {
		l := randomLetters(r, 40)
		for _, base := range []bool{false, true} {
			s, errno := word.Encode(l, base)
			if back := word.Decode(s); errno != api.OK || !same(back, l) {
				t.Fatalf("%x is encoded %q, %d, and decoded %x", l, s, errno, back)
			}
		}
	}
	var all []int32
	for c := range int32(0x110000) {
		if c < 0xd800 || c > 0xdfff {
			all = append(all, c)
		}
	}
	for _, base := range []bool{false, true} {
		s, errno := word.Encode(all, base)
		if back := word.Decode(s); errno != api.OK || !same(back, all) {
			t.Errorf("all letters are %d bytes, %d, and %d letters", len(s), errno, len(back))
		}
	}
}

// 9.5
func TestPlainValuesAreInUtf8(t *testing.T) {
	r := rand.New(rand.NewSource(4))
	const some = "=?= ?_\t\xc3\xa9\xe2\x82\xac\xffab\n\x00"
	for range 30000 {
		b := make([]byte, r.Intn(20))
		for i := range b {
			if b[i] = byte(r.Intn(256)); r.Intn(2) == 0 {
				b[i] = some[r.Intn(len(some))]
			}
		}
		s := strings.ReplaceAll(string(b), "=?", "")
		if strings.Contains(s, "=?") {
			continue
		}
		if l := word.Decode(s); !same(l, []int32([]rune(s))) || word.Words(s) != 0 {
			t.Fatalf("Decode(%q) = %x, of %d words", s, l, word.Words(s))
		}
		if _, _, errno := word.One(s); errno != api.ErrCode {
			t.Fatalf("One(%q): %d", s, errno)
		}
	}
}

// P1 to P4
func TestAnythingIsAnswered(t *testing.T) {
	ahead := runtime.NumGoroutine()
	r := rand.New(rand.NewSource(5))
	for range 20000 {
		s := random(r, 12)
		l := word.Decode(s)
		if len(l) > len(s) || !same(l, word.Decode(s)) || word.Words(s) != word.Words(s) {
			t.Fatalf("Decode(%q) = %x", s, l)
		}
		m, rest, errno := word.One(s)
		n, other, also := word.One(s)
		if !same(m, n) || rest != other || errno != also || errno != api.OK && errno != api.ErrCode {
			t.Fatalf("One(%q) = %x, %q, %d", s, m, rest, errno)
		}
		any := []int32{int32(r.Uint32() >> r.Intn(33)), int32(r.Uint32()) << r.Intn(33)}
		if text, errno := word.Encode(any, r.Intn(2) == 0); errno != api.OK && (errno != api.ErrCode || text != "") {
			t.Fatalf("Encode(%x) = %q, %d", any, text, errno)
		}
	}
	if behind := runtime.NumGoroutine(); behind > ahead { // fewer, if that of an earlier test was just ending
		t.Errorf("%d goroutines ahead, %d behind", ahead, behind)
	}
}

// P1: what is long is gone through once, and not once for each place where a word might begin.
func TestLongValuesAreAnswered(t *testing.T) {
	const long = 1 << 20
	for _, c := range []struct {
		value string
		words int
	}{
		{strings.Repeat("=?", long), 0},
		{strings.Repeat("=?a", long), 0},
		{strings.Repeat("=?utf-8?q?", long/4), 0},
		{strings.Repeat("=?utf-8?q?=", long/4), 0},
		{strings.Repeat("=?a?q?a", long/4) + "?=", 0},
		{strings.Repeat("=?utf-8?b?YQ==?=", long/8), long / 8},
		{strings.Repeat("=?utf-8?q?a?= ", long/8), long / 8},
		{"=?utf-8?q?a?=" + strings.Repeat(" ", 4*long) + "=?utf-8?q?b?=", 2},
		{"=?utf-8?q?" + strings.Repeat("a", 4*long) + "?=", 1},
		{"=?utf-8?q?" + strings.Repeat("=", 4*long) + "?=", 0},
		{"=?utf-8?b?" + strings.Repeat("AAAA", long) + "?=", 1},
		{"=?utf-8*" + strings.Repeat("a", 4*long) + "?q?a?=", 1},
		{"=?" + strings.Repeat("a", 4*long), 0},
		{strings.Repeat(" ", 4*long), 0},
	} {
		if many := word.Words(c.value); many != c.words {
			t.Errorf("of %.16q and so on %d words are taken, not %d", c.value, many, c.words)
		}
		if l := word.Decode(c.value); len(l) > len(c.value) {
			t.Errorf("of %.16q and so on there are %d letters", c.value, len(l))
		}
	}
}
