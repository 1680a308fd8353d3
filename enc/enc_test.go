package enc_test

import (
	"encoding/base64"
	"math/rand"
	"regexp"
	"runtime"
	"strconv"
	"strings"
	"testing"
	"unsafe"

	"missive/api"
	"missive/enc"
)

// The signatures that the chapter lists.
var (
	_ func(string) string              = enc.Base64
	_ func(string) (string, int)       = enc.FromBase64
	_ func(string) string              = enc.Quoted
	_ func(string) (string, int)       = enc.FromQuoted
	_ func(string) (string, api.Errno) = enc.Strict
)

// coded are bytes, and how they are written in base64.
var coded = []struct{ bytes, text string }{
	{"", ""},
	{"M", "TQ=="},
	{"Ma", "TWE="},
	{"Man", "TWFu"},
	{"Many", "TWFueQ=="},
	{"Many\n", "TWFueQo="},
	{"\x00", "AA=="},
	{"\x00\x00", "AAA="},
	{"\x00\x00\x00", "AAAA"},
	{"\xff", "/w=="},
	{"\xff\xff", "//8="},
	{"\xff\xff\xff", "////"},
	{"\xfb\xef\xbe", "++++"},
	{"\x00\x10\x83\x10\x51\x87\x20\x92\x8b\x30\xd3\x8f\x41\x14\x93\x51\x55\x97\x61\x96\x9b", "ABCDEFGHIJKLMNOPQRSTUVWXYZab"},
	{"\x69\xb7\x1d\x79\xf8\x21\x8a\x39\x25\x9a\x7a\x29\xaa\xbb\x2d\xba\xfc\x31\xcb", "abcdefghijklmnopqrstuvwxyw=="},
	{"\xd3\x5d\xb7\xe3\x9e\xbb\xf3\xdf\xbf", "0123456789+/"},
}

// quoted are texts, and how they are written quoted-printable.
var quoted = []struct{ text, written string }{
	{"", ""},
	{"a=b", "a=3Db"},
	{"!~", "!~"},
	{"azAZ09<>", "azAZ09<>"},
	{"\x00\x1f\x7f\x80\xff", "=00=1F=7F=80=FF"},
	{"\xab\xcd\xef", "=AB=CD=EF"},
	{"\t", "=09"},
	{"a\tb", "a=09b"},
	{"\r", "=0D"},
	{"\r\n", "=0D\n"},
	{"\n", "\n"},
	{"\n\n", "\n\n"},
	{" ", "=20"},
	{"  ", " =20"},
	{"a b", "a b"},
	{" a", " a"},
	{"a \n", "a=20\n"},
	{"a  \nb ", "a =20\nb=20"},
	{"a \r\n", "a =0D\n"},
	{"a \t", "a =09"},
	{"\n ", "\n=20"},
	{"\n \n", "\n=20\n"},
	{strings.Repeat("x", 1000), strings.Repeat("x", 1000)},
}

// random tells bytes, half of them of those that mean something.
func random(r *rand.Rand, most int) string {
	const some = "=\n\r \t=\n\r \tAZaz09+/3dD!~\x00\x7f\x80\xff"
	b := make([]byte, r.Intn(most))
	for i := range b {
		if b[i] = byte(r.Intn(256)); r.Intn(2) == 0 {
			b[i] = some[r.Intn(len(some))]
		}
	}
	return string(b)
}

// shares tells whether two texts have a byte of memory together.
func shares(a, b string) bool {
	if a == "" || b == "" {
		return false
	}
	x, y := uintptr(unsafe.Pointer(unsafe.StringData(a))), uintptr(unsafe.Pointer(unsafe.StringData(b)))
	return x < y+uintptr(len(b)) && y < x+uintptr(len(a))
}

// 5.1
func TestBase64(t *testing.T) {
	for _, c := range coded {
		if s := enc.Base64(c.bytes); s != c.text {
			t.Errorf("Base64(%q) = %s, not %s", c.bytes, s, c.text)
		}
		if s, errno := enc.Strict(c.text); s != c.bytes || errno != api.OK {
			t.Errorf("Strict(%s) = %q, %d", c.text, s, errno)
		}
		if s, counted := enc.FromBase64(c.text); s != c.bytes || counted != 0 {
			t.Errorf("FromBase64(%s) = %q, %d", c.text, s, counted)
		}
	}
}

// 5.1
func TestEachLetterHasItsNumber(t *testing.T) {
	const letters = "ABCDEFGHIJKLMNOPQRSTUVWXYZabcdefghijklmnopqrstuvwxyz0123456789+/"
	for n := range 64 {
		one := string([]byte{byte(n << 2)})
		text := letters[n:n+1] + "A=="
		if s := enc.Base64(one); s != text {
			t.Errorf("Base64(%q) = %s, not %s", one, s, text)
		}
		if s, counted := enc.FromBase64(text); s != one || counted != 0 {
			t.Errorf("FromBase64(%s) = %q, %d", text, s, counted)
		}
	}
}

// 5.1, P2
func TestStrictRefuses(t *testing.T) {
	for _, s := range []string{
		"T", "TQ", "TQ=", "TQ===", "TQ==T", "TQ==\n", "\nTQ==", "T Q==", "TQ= =", "T=Q=", "=TQ=", "T===",
		"TWE", "TWE==", "TWE=TWE=", "TWE=\x00", "TW=E",
		"TWFu=", "TWFu==", "TWFu====", "TWFuT", "TWFuTQ", "TWFu\r\n", "TW Fu", "TWFu ", "\tTWFu", "TW-_", "TW!u", "TW\xffu", "TQ==TWFu",
		"=", "==", "====", "A=======", " ", "\n", "!", "\x00", "\xff\xff\xff\xff",
		"TR==", "TS==", "TU==", "TY==", "TX==", "T/==", // the last four bits of one
		"TWF=", "TWG=", "TWH=", "TW/=", // the last two bits of two
	} {
		if b, errno := enc.Strict(s); b != "" || errno != api.ErrCode {
			t.Errorf("Strict(%q) = %q, %d", s, b, errno)
		}
	}
}

// 5.1
func TestWhateverIsThereIsReadAsBase64(t *testing.T) {
	for _, c := range []struct {
		text, bytes string
		counted     int
	}{
		{"T W!E=A", "Ma", 1},
		{"T", "", 0},
		{"TW", "M", 0},
		{"TWE", "Ma", 0},
		{"TWF", "Ma", 0},
		{"TX", "M", 0},
		{"TWFuT", "Man", 0},
		{"TWFuTQ", "ManM", 0},
		{"TWFu\r\nTWFu\n\t TWFu", "ManManMan", 0},
		{" \t\r\n", "", 0},
		{"=", "", 0},
		{"=TWFu", "", 0},
		{"TWFu=TWFu", "Man", 0},
		{"TQ==TWFu", "M", 0},
		{"T=WFu", "", 0},
		{"!=!", "", 1},
		{"T!W?F#u", "Man", 3},
		{"T!W?F#u=!!!", "Man", 3},
		{"-_-_", "", 4},
		{"\x00\x7f\x80\xff\v\f", "", 6},
		{"\u00a0TWFu", "Man", 2},
		{"TWFu!", "Man", 1},
	} {
		if s, counted := enc.FromBase64(c.text); s != c.bytes || counted != c.counted {
			t.Errorf("FromBase64(%q) = %q, %d, not %q, %d", c.text, s, counted, c.bytes, c.counted)
		}
	}
}

// 5.1
func TestEachByteIsPassedOverOrNot(t *testing.T) {
	letter := regexp.MustCompile(`^[A-Za-z0-9+/]$`)
	for c := range 256 {
		one := string([]byte{byte(c)})
		s, counted := enc.FromBase64("TW" + one + "Fu")
		switch {
		case letter.MatchString(one):
			if len(s) != 3 || counted != 0 {
				t.Errorf("with %q in it: %q, %d", one, s, counted)
			}
		case one == "=":
			if s != "M" || counted != 0 {
				t.Errorf("with %q in it: %q, %d", one, s, counted)
			}
		case strings.Contains("\n\r \t", one):
			if s != "Man" || counted != 0 {
				t.Errorf("with %q in it: %q, %d", one, s, counted)
			}
		default:
			if s != "Man" || counted != 1 {
				t.Errorf("with %q in it: %q, %d", one, s, counted)
			}
		}
	}
}

// slowBase64 tells what is to be read by the library's base64, of the letters alone.
func slowBase64(s string) (string, int) {
	s, _, _ = strings.Cut(s, "=")
	var letters []byte
	counted := 0
	for i := range len(s) {
		switch c := s[i]; {
		case c >= 'A' && c <= 'Z', c >= 'a' && c <= 'z', c >= '0' && c <= '9', c == '+', c == '/':
			letters = append(letters, c)
		case c != '\n' && c != '\r' && c != ' ' && c != '\t':
			counted++
		}
	}
	if len(letters)%4 == 1 { // one letter more is no whole byte
		letters = letters[:len(letters)-1]
	}
	b, err := base64.RawStdEncoding.DecodeString(string(letters))
	if err != nil {
		panic(err)
	}
	return string(b), counted
}

// 5.1
func TestBase64IsTheLibrarys(t *testing.T) {
	r := rand.New(rand.NewSource(1))
	for range 5000 {
		s := random(r, 40)
		text := base64.StdEncoding.EncodeToString([]byte(s))
		if got := enc.Base64(s); got != text {
			t.Fatalf("Base64(%q) = %s, not %s", s, got, text)
		}
		want, many := slowBase64(s)
		if got, counted := enc.FromBase64(s); got != want || counted != many {
			t.Fatalf("FromBase64(%q) = %q, %d, not %q, %d", s, got, counted, want, many)
		}
	}
}

// 5.1
func TestStrictTakesWhatIsWrittenAlone(t *testing.T) {
	const letters = "AQgwBE/+="
	for n := range len(letters) * len(letters) * len(letters) * len(letters) {
		var b []byte
		for rest := n; len(b) < 4; rest /= len(letters) {
			b = append(b, letters[rest%len(letters)])
		}
		s := string(b)
		want, err := base64.StdEncoding.Strict().DecodeString(s)
		got, errno := enc.Strict(s)
		if err == nil && (got != string(want) || errno != api.OK) || err != nil && (got != "" || errno != api.ErrCode) {
			t.Errorf("Strict(%s) = %q, %d", s, got, errno)
		}
	}
}

// 5.2
func TestQuoted(t *testing.T) {
	for _, c := range quoted {
		if s := enc.Quoted(c.text); s != c.written {
			t.Errorf("Quoted(%q) = %q, not %q", c.text, s, c.written)
		}
		if s, counted := enc.FromQuoted(c.written); s != c.text || counted != 0 {
			t.Errorf("FromQuoted(%q) = %q, %d", c.written, s, counted)
		}
	}
}

// 5.2
func TestEachByteIsQuotedOrNot(t *testing.T) {
	const digits = "0123456789ABCDEF"
	for c := range 256 {
		one := string([]byte{byte(c)})
		want := "=" + digits[c>>4:c>>4+1] + digits[c&15:c&15+1]
		if c >= 33 && c <= 126 && c != '=' || c == ' ' || c == '\n' {
			want = one
		}
		if s := enc.Quoted(one + "."); s != want+"." {
			t.Errorf("Quoted(%q) = %q", one+".", s)
		}
	}
}

// 5.2
func TestWhateverIsThereIsReadAsQuoted(t *testing.T) {
	for _, c := range []struct {
		text, bytes string
		counted     int
	}{
		{"a=3Db \n=z=\nx", "a=b\n=zx", 1},
		{"=3D=3d=e9=E9=eE", "==\xe9\xe9\xee", 0},
		{"=00=ff=0a=20=09", "\x00\xff\n \t", 0},
		{"a=20\n", "a \n", 0},
		{"a=09 \n", "a\t\n", 0},
		// an = that is the last byte, or ahead of a line's end
		{"=", "", 0},
		{"a=", "a", 0},
		{"a=\n", "a", 0},
		{"a=\nb", "ab", 0},
		{"a=\r\nb", "ab", 0},
		{"a=\r\n\r\nb", "a\r\nb", 0},
		{"=\n=\n=", "", 0},
		{"==\n", "=", 1},
		{"==", "=", 1},
		{"===", "==", 2},
		// another = is itself
		{"=\r", "=\r", 1},
		{"=\ra", "=\ra", 1},
		{"=\r\r\n", "=\r\r\n", 1},
		{"=3", "=3", 1},
		{"=3\n", "=3\n", 1},
		{"=g3", "=g3", 1},
		{"=3g", "=3g", 1},
		{"=G0=0G", "=G0=0G", 2},
		{"=`0=@0=/0=:0", "=`0=@0=/0=:0", 4},
		{"==3D", "==", 1},
		{"=3=3D", "=3=", 1},
		{"=x41", "=x41", 1},
		{"=-1=+1", "=-1=+1", 2},
		{"= ", "=", 1},
		{"= \nb", "=\nb", 1},
		{"= \r\nb", "=\r\nb", 1},
		{"= 3D", "= 3D", 1},
		// spaces and tabs
		{" ", "", 0},
		{"\t \t", "", 0},
		{"a ", "a", 0},
		{"a \t ", "a", 0},
		{"a \t \nb", "a\nb", 0},
		{"a\t\r\nb", "a\r\nb", 0},
		{" \n \n", "\n\n", 0},
		{" \r\n \r\n ", "\r\n\r\n", 0},
		{"a \r", "a \r", 0},
		{"a \rb", "a \rb", 0},
		{"a \r\r\n", "a \r\r\n", 0},
		{"a \r \n", "a \r\n", 0},
		{" \t a\t b", " \t a\t b", 0},
		{"a =\nb", "a b", 0},
		{"a =", "a ", 0},
		{"a =\r\n b", "a  b", 0},
		{"a =\n \nb", "a \nb", 0},
		{"a \v\n", "a \v\n", 0},
		// all else
		{"\r\n\n\r", "\r\n\n\r", 0},
		{"\x00\x7f\x80\xff_?", "\x00\x7f\x80\xff_?", 0},
		{"\xc2\xa0\n", "\xc2\xa0\n", 0},
	} {
		if s, counted := enc.FromQuoted(c.text); s != c.bytes || counted != c.counted {
			t.Errorf("FromQuoted(%q) = %q, %d, not %q, %d", c.text, s, counted, c.bytes, c.counted)
		}
	}
}

// slowQuoted reads as the chapter words it: what stands at a place is found by patterns.
func slowQuoted(s string) (string, int) {
	hex := regexp.MustCompile(`^=[0-9A-Fa-f]{2}`)
	soft := regexp.MustCompile(`^=(\r?\n|$)`)
	blanks := regexp.MustCompile(`^[ \t]+`)
	ahead := regexp.MustCompile(`^[ \t]+(\r?\n|$)`)
	var b []byte
	counted := 0
	for s != "" {
		if hex.MatchString(s) {
			n, _ := strconv.ParseUint(s[1:3], 16, 8)
			b, s = append(b, byte(n)), s[3:]
			continue
		}
		if m := soft.FindString(s); m != "" {
			s = s[len(m):]
			continue
		}
		m := blanks.FindString(s)
		if m == "" {
			m = s[:1]
		}
		if m == "=" {
			counted++
		}
		if !ahead.MatchString(s) {
			b = append(b, m...)
		}
		s = s[len(m):]
	}
	return string(b), counted
}

// 5.2, 5.5
func TestQuotedIsReadAsItIsWorded(t *testing.T) {
	r := rand.New(rand.NewSource(2))
	for range 20000 {
		s := random(r, 16)
		want, many := slowQuoted(s)
		if got, counted := enc.FromQuoted(s); got != want || counted != many {
			t.Fatalf("FromQuoted(%q) = %q, %d, not %q, %d", s, got, counted, want, many)
		}
	}
}

// 5.3
func TestAnswersAreNewMemory(t *testing.T) {
	for _, s := range []string{"M", "Many", "TQ==", "TWFu", "a b", "=3D"} {
		given := strings.Clone(s)
		for name, call := range map[string]func(string) string{
			"Base64":     enc.Base64,
			"FromBase64": func(s string) string { b, _ := enc.FromBase64(s); return b },
			"Quoted":     enc.Quoted,
			"FromQuoted": func(s string) string { b, _ := enc.FromQuoted(s); return b },
			"Strict":     func(s string) string { b, _ := enc.Strict(s); return b },
		} {
			one, two := call(given), call(given)
			if shares(one, given) || shares(one, two) {
				t.Errorf("what %s(%q) tells shares its memory", name, s)
			}
		}
		if given != s {
			t.Errorf("%q is changed", s)
		}
	}
}

// 5.4
func TestThereAndBack(t *testing.T) {
	r := rand.New(rand.NewSource(3))
	for range 20000 {
		s := random(r, 60)
		if b, counted := enc.FromBase64(enc.Base64(s)); b != s || counted != 0 {
			t.Fatalf("%q is written in base64, and read as %q, %d", s, b, counted)
		}
		if b, errno := enc.Strict(enc.Base64(s)); b != s || errno != api.OK {
			t.Fatalf("%q is written in base64, and strictly read as %q, %d", s, b, errno)
		}
		if b, counted := enc.FromQuoted(enc.Quoted(s)); b != s || counted != 0 {
			t.Fatalf("%q is quoted, and read as %q, %d", s, b, counted)
		}
		if b, errno := enc.Strict(s); errno == api.OK && enc.Base64(b) != s {
			t.Fatalf("%q is strictly read as %q", s, b)
		}
	}
}

// 5.5, P1 to P4
func TestAnyBytesAreAnswered(t *testing.T) {
	ahead := runtime.NumGoroutine()
	r := rand.New(rand.NewSource(4))
	for range 20000 {
		s := random(r, 30)
		a, n := enc.FromBase64(s)
		b, m := enc.FromQuoted(s)
		c, errno := enc.Strict(s)
		if len(a) > len(s) || n > len(s) || len(b) > len(s) || m > len(s) || len(c) > len(s) {
			t.Fatalf("of %q there are %q, %d, and %q, %d, and %q", s, a, n, b, m, c)
		}
		if errno != api.OK && (errno != api.ErrCode || c != "") {
			t.Fatalf("Strict(%q) = %q, %d", s, c, errno)
		}
		a2, n2 := enc.FromBase64(s)
		b2, m2 := enc.FromQuoted(s)
		if a2 != a || n2 != n || b2 != b || m2 != m || enc.Quoted(s) != enc.Quoted(s) || enc.Base64(s) != enc.Base64(s) {
			t.Fatalf("%q is answered twice, and not alike", s)
		}
	}
	if behind := runtime.NumGoroutine(); behind > ahead { // fewer, if that of an earlier test was just ending
		t.Errorf("%d goroutines ahead, %d behind", ahead, behind)
	}
}

// P1: what is long is gone through once.
func TestLongTextsAreAnswered(t *testing.T) {
	const long = 1 << 22
	for _, s := range []string{" ", "\t", "=", "A", "!", "\n", "\r", "= "} {
		text := strings.Repeat(s, long/len(s))
		if b, _ := enc.FromQuoted(text + "x"); len(b) > long+1 {
			t.Errorf("of many %q there are %d bytes", s, len(b))
		}
		if b, counted := enc.FromQuoted(enc.Quoted(text)); b != text || counted != 0 {
			t.Errorf("many %q are quoted, and read as %d bytes, %d", s, len(b), counted)
		}
		if b, errno := enc.Strict(enc.Base64(text)); b != text || errno != api.OK {
			t.Errorf("many %q are written in base64, and read as %d bytes, %d", s, len(b), errno)
		}
		enc.Strict(text)
	}
}
