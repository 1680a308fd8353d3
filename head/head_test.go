package head_test

import (
	"math/rand"
	"regexp"
	"runtime"
	"slices"
	"strconv"
	"strings"
	"testing"
	"unsafe"

	"missive/api"
	"missive/head"
)

// The signatures that the chapter lists.
var (
	_ func(string) ([]api.Field, int)               = head.Parse
	_ func([]api.Field, string) (string, api.Errno) = head.Find
	_ func([]api.Field, string) []string            = head.All
	_ func(...api.Field) (string, api.Errno)        = head.Write
	_ func(string, string) bool                     = head.Like
)

// parsed are texts, their fields, and where their bodies begin.
var parsed = []struct {
	text   string
	fields []api.Field
	body   int
}{
	{"A: b\n c", pairs("A", "b c"), 7},
	{"A: b\r\n c\nX:y \n\nbody", pairs("A", "b c", "X", "y"), 15},
	// headers without fields
	{"", nil, 0},
	{"\n", nil, 1},
	{"\r\n", nil, 2},
	{"\nA: b\n", nil, 1},
	{"\r\nA: b\n", nil, 2},
	{"\n\n", nil, 1},
	{"body", nil, 0},
	{"body\n\nA: b", nil, 0},
	// without a body, and without an empty line
	{"A: b\n\n", pairs("A", "b"), 6},
	{"A: b\r\n\r\n", pairs("A", "b"), 8},
	{"A: b\n", pairs("A", "b"), 5},
	{"A: b", pairs("A", "b"), 4},
	{"A: b\nc", pairs("A", "b"), 5},
	{"A: b\nbody\n\nX: y\n", pairs("A", "b"), 5},
	{"A: b\n\n\nX: y\n", pairs("A", "b"), 6},
	{"A: b\n\n c\n", pairs("A", "b"), 6},
	{"A: b\nX y\nC: d\n\n", pairs("A", "b"), 5},
	// lines that go on
	{" c\nA: b\n\n", nil, 0},
	{"\tc\nA: b\n\n", nil, 0},
	{" \n\n", nil, 0},
	{" A: b\n\n", nil, 0},
	{"A: b\n\tc\n\n", pairs("A", "b\tc"), 9},
	{"A: b \n \t c \n\n", pairs("A", "b  \t c"), 13},
	{"A: b\n \n\t\n c\n\n", pairs("A", "b \t c"), 13},
	{"A: b\n \n\n", pairs("A", "b"), 8},
	{"A: b\n X: y\n\n", pairs("A", "b X: y"), 12},
	{"A:\n b\nX:\n\ty\n", pairs("A", "b", "X", "y"), 12},
	{"A:\n \n b\n", pairs("A", "b"), 8},
	{"A: b\n c\nX: y\n z\n\n w", pairs("A", "b c", "X", "y z"), 17},
	{"A: b\n ", pairs("A", "b"), 6},
	{"A: b\n\v c\n\n", pairs("A", "b"), 5},
	{"A: b\nbody\n c\n", pairs("A", "b"), 5},
	// carriage returns
	{"A: b\r\n c\r\n\r\nbody", pairs("A", "b c"), 12},
	{"A: b\rc\n\n", pairs("A", "b\rc"), 8},
	{"A: b\r", pairs("A", "b\r"), 5},
	{"A: b\r\r\n\n", pairs("A", "b\r"), 8},
	{"A: b\r c\n\n", pairs("A", "b\r c"), 9},
	{"A: b \r\n\n", pairs("A", "b"), 8},
	{"A: b\n\r", pairs("A", "b"), 5},
	{"A: b\n\r\r\n", pairs("A", "b"), 5},
	{"A: b\n\rX: y\n", pairs("A", "b"), 5},
	{"\r", nil, 0},
	{"\r\r\n", nil, 0},
	{"\rA: b\n", nil, 0},
	{"A\r: b\n", nil, 0},
	{"A\r\n: b\n", nil, 0},
	{"A:\r\n\r\n", pairs("A", ""), 6},
	{"A: \r \r\n\n", pairs("A", "\r"), 8},
	// names and colons
	{"A", nil, 0},
	{"A\n", nil, 0},
	{"A\n: b\n", nil, 0},
	{":", nil, 0},
	{": b\n\n", nil, 0},
	{"A: b\n: c\n\n", pairs("A", "b"), 5},
	{"A : b\n\n", nil, 0},
	{"A\t: b\n\n", nil, 0},
	{"A b: c\n\n", nil, 0},
	{"\x7fA: b\n", nil, 0},
	{"A\x7f: b\n", nil, 0},
	{"A\xc3\xa9: b\n", nil, 0},
	{"A\x00: b\n", nil, 0},
	{"!: a\n~: b\n9\"#;@: c\n\n", pairs("!", "a", "~", "b", "9\"#;@", "c"), 20},
	{"A::b\n\n", pairs("A", ":b"), 6},
	{"A:b:c\n\n", pairs("A", "b:c"), 7},
	{"From a@b Mon 10:00\nA: b\n\n", nil, 0},
	{"A: b\na: c\nA: b\n\n", pairs("A", "b", "a", "c", "A", "b"), 16},
	// values
	{"A:\n\n", pairs("A", ""), 4},
	{"A:", pairs("A", ""), 2},
	{"A: \t \n\n", pairs("A", ""), 7},
	{"A:\n \n\t\n\n", pairs("A", ""), 8},
	{"A:\t b \t\n\n", pairs("A", "b"), 9},
	{"A:b  \tc\n\n", pairs("A", "b  \tc"), 9},
	{"A: \n  b \n \n\n", pairs("A", "b"), 12},
	{"A: \vb\f\n\n", pairs("A", "\vb\f"), 8},
	{"A: \x00\xff\xc2\xa0\n\n", pairs("A", "\x00\xff\xc2\xa0"), 9},
}

// noNames are texts that no field begins with.
var noNames = []string{"", " ", "a b", " a", "a ", "a\t", ":", "a:", ":a", "a:b", "a\n", "\na", "a\r", "a\x00b", "\x1f", "\x20a", "a\x7f", "\x80", "\xc3\xa9", "\xff"}

// noValues are texts that would not be read as they are written.
var noValues = []string{" ", "\t", " a", "a ", "\ta", "a\t", " a ", "a\n", "\na", "a\nb", "a\n b", "a\r", "\ra", "a\rb", "a\r\n", "\n", "\r", "a\r\n b", "a \n"}

// pairs tells fields by their names and values.
func pairs(texts ...string) []api.Field {
	var l []api.Field
	for i := 0; i+1 < len(texts); i += 2 {
		l = append(l, api.Field{Name: texts[i], Value: texts[i+1]})
	}
	return l
}

// random tells bytes of those that mean something.
func random(r *rand.Rand, most int) string {
	const some = "AbX:::\n\n\n\r\r  \t!~\x00\x7f\xff"
	b := make([]byte, r.Intn(most))
	for i := range b {
		b[i] = some[r.Intn(len(some))]
	}
	return string(b)
}

// randomField tells one that is right.
func randomField(r *rand.Rand) api.Field {
	name := make([]byte, 1+r.Intn(4))
	for i := range name {
		for name[i] = ':'; name[i] == ':'; {
			name[i] = byte('!' + r.Intn('~'-'!'+1))
		}
	}
	value := strings.NewReplacer("\n", "", "\r", "").Replace(random(r, 9))
	return api.Field{Name: string(name), Value: strings.Trim(value, " \t")}
}

// many tells so many fields, each of its own.
func many(n int) []api.Field {
	var l []api.Field
	for i := range n {
		l = append(l, api.Field{Name: "N" + strconv.Itoa(i), Value: "v" + strconv.Itoa(i)})
	}
	return l
}

// slowParse reads as the chapter words it: lines are found by patterns.
func slowParse(s string) ([]api.Field, int) {
	lines := regexp.MustCompile(`(?s)[^\n]*\n|[^\n]+$`)
	end := regexp.MustCompile(`\r?\n$`)
	field := regexp.MustCompile(`(?s)^([!-9;-~]+):(.*)$`)
	var l []api.Field
	at := 0
	for _, whole := range lines.FindAllString(s, -1) {
		line := end.ReplaceAllString(whole, "")
		m := field.FindStringSubmatch(line)
		switch {
		case line == "":
			return trimmed(l), at + len(whole)
		case (line[0] == ' ' || line[0] == '\t') && len(l) > 0:
			l[len(l)-1].Value += line
		case m != nil:
			l = append(l, api.Field{Name: m[1], Value: m[2]})
		default:
			return trimmed(l), at
		}
		at += len(whole)
	}
	return trimmed(l), at
}

// trimmed takes the blanks off the values' ends.
func trimmed(l []api.Field) []api.Field {
	for i := range l {
		l[i].Value = strings.Trim(l[i].Value, " \t")
	}
	return l
}

// shares tells whether two texts have a byte of memory together.
func shares(a, b string) bool {
	if a == "" || b == "" {
		return false
	}
	x, y := uintptr(unsafe.Pointer(unsafe.StringData(a))), uintptr(unsafe.Pointer(unsafe.StringData(b)))
	return x < y+uintptr(len(b)) && y < x+uintptr(len(a))
}

// 8.1
func TestParse(t *testing.T) {
	for _, c := range parsed {
		if l, body := head.Parse(c.text); !slices.Equal(l, c.fields) || body != c.body {
			t.Errorf("Parse(%q) = %q, %d, not %q, %d", c.text, l, body, c.fields, c.body)
		}
	}
}

// 8.1
func TestEachByteIsOneOfANameOrNot(t *testing.T) {
	for c := range 256 {
		one := string([]byte{byte(c)})
		is := c >= 33 && c <= 126 && c != ':'
		for _, name := range []string{one, "a" + one, one + "a", "a" + one + "a"} {
			l, body := head.Parse(name + ":v\n")
			whole := len(l) == 1 && l[0] == api.Field{Name: name, Value: "v"} && body == len(name)+3
			if whole != is {
				t.Errorf("Parse(%q) = %q, %d", name+":v\n", l, body)
			}
			if _, errno := head.Write(api.Field{Name: name}); (errno == api.OK) != is {
				t.Errorf("Write(%q): %d", name, errno)
			}
		}
	}
}

// 8.1
func TestParseIsAsItIsWorded(t *testing.T) {
	r := rand.New(rand.NewSource(1))
	for range 50000 {
		s := random(r, 24)
		if r.Intn(2) == 0 {
			s = "A:" + s
		}
		want, at := slowParse(s)
		if l, body := head.Parse(s); !slices.Equal(l, want) || body != at {
			t.Fatalf("Parse(%q) = %q, %d, not %q, %d", s, l, body, want, at)
		}
	}
}

// 8.1
func TestMoreFieldsAreLeftOut(t *testing.T) {
	for _, n := range []int{api.MaxFields - 1, api.MaxFields, api.MaxFields + 1, 3 * api.MaxFields} {
		var b strings.Builder
		want := many(n)
		for i, f := range want {
			b.WriteString(f.Name + ": " + f.Value + "\r\n\tmore\n")
			want[i].Value += "\tmore"
		}
		text := b.String()
		want = want[:min(n, api.MaxFields)]
		for _, c := range []struct {
			rest string
			own  int
		}{{"\nbody\n\n", 1}, {"body", 0}, {"", 0}, {" \n\n", 3}} {
			l, body := head.Parse(text + c.rest)
			if !slices.Equal(l, want) || body != len(text)+c.own {
				t.Errorf("of %d fields, and %q, there are %d, the last one %q, and the body is at %d, not %d", n, c.rest, len(l), l[len(l)-1], body, len(text)+c.own)
			}
		}
	}
}

// 8.2
func TestLike(t *testing.T) {
	for _, c := range []struct {
		a, b string
		like bool
	}{
		{"", "", true},
		{"a", "a", true},
		{"a", "A", true},
		{"Z", "z", true},
		{"sUbject", "Subject", true},
		{"Content-Type", "CONTENT-TYPE", true},
		{"", "a", false},
		{"a", "", false},
		{"a", "b", false},
		{"a", "ab", false},
		{"ab", "a", false},
		{"ab", "ba", false},
		{"a ", "a", false},
		{"@", "`", false},
		{"[", "{", false},
		{"-", "\r", false},
		{"\x00", " ", false},
		{"1", "\x11", false},
		{"k", "\u212a", false}, // a letter that is a k elsewhere
		{"\u212a", "\u212a", true},
		{"s", "\u017f", false},
		{"\u00e9", "\u00c9", false},
		{"\xe9", "\xc9", false},
		{"\xff", "\xff", true},
	} {
		if like := head.Like(c.a, c.b); like != c.like || head.Like(c.b, c.a) != c.like {
			t.Errorf("Like(%q, %q) = %v", c.a, c.b, like)
		}
	}
}

// 8.2
func TestLikeOfEachTwoBytes(t *testing.T) {
	const great, small = "ABCDEFGHIJKLMNOPQRSTUVWXYZ", "abcdefghijklmnopqrstuvwxyz"
	for a := range 256 {
		for b := range 256 {
			x, y := string([]byte{'x', byte(a)}), string([]byte{'X', byte(b)})
			at := strings.IndexByte(great, byte(a))
			back := strings.IndexByte(great, byte(b))
			want := a == b || at >= 0 && small[at] == byte(b) || back >= 0 && small[back] == byte(a)
			if head.Like(x, y) != want {
				t.Errorf("Like(%q, %q) = %v", x, y, !want)
			}
		}
	}
}

// 8.2, P2
func TestFindAndAll(t *testing.T) {
	l := pairs("To", "one", "X", "", "tO", "two", "x", "three", "TO", "two", "\u017f", "s", "", "none", "Too", "many")
	for _, c := range []struct {
		name  string
		want  []string
		errno api.Errno
	}{
		{"To", []string{"one", "two", "two"}, api.OK},
		{"to", []string{"one", "two", "two"}, api.OK},
		{"x", []string{"", "three"}, api.OK},
		{"toO", []string{"many"}, api.OK},
		{"", []string{"none"}, api.OK},
		{"T", nil, api.ErrNone},
		{"To:", nil, api.ErrNone},
		{"To ", nil, api.ErrNone},
		{"s", nil, api.ErrNone},
		{"S", nil, api.ErrNone},
		{"from", nil, api.ErrNone},
	} {
		if all := head.All(l, c.name); !slices.Equal(all, c.want) {
			t.Errorf("All(%q) = %q, not %q", c.name, all, c.want)
		}
		first := ""
		if len(c.want) > 0 {
			first = c.want[0]
		}
		if v, errno := head.Find(l, c.name); v != first || errno != c.errno {
			t.Errorf("Find(%q) = %q, %d", c.name, v, errno)
		}
	}
	for _, none := range [][]api.Field{nil, {}} {
		if v, errno := head.Find(none, "a"); v != "" || errno != api.ErrNone || len(head.All(none, "a")) != 0 {
			t.Errorf("of no fields %q is found, %d", v, errno)
		}
	}
	more := many(2 * api.MaxFields)
	if v, errno := head.Find(more, "n2047"); v != "v2047" || errno != api.OK || len(head.All(more, "n2047")) != 1 {
		t.Errorf("the last one of many is %q, %d", v, errno)
	}
}

// 8.2
func TestWrite(t *testing.T) {
	for _, c := range []struct {
		fields []api.Field
		want   string
	}{
		{nil, "\n"},
		{[]api.Field{}, "\n"},
		{pairs("A", "b"), "A: b\n\n"},
		{pairs("A", ""), "A:\n\n"},
		{pairs("A", "b c", "X", "y"), "A: b c\nX: y\n\n"},
		{pairs("A", "", "a", "b \t c", "A", ""), "A:\na: b \t c\nA:\n\n"},
		{pairs("!~", ":", "x", "a: b"), "!~: :\nx: a: b\n\n"},
		{pairs("x", "\x00\v\xff\x7f\xc2\xa0"), "x: \x00\v\xff\x7f\xc2\xa0\n\n"},
		{pairs(strings.Repeat("n", 5000), strings.Repeat("v ", 5000)+"v"), strings.Repeat("n", 5000) + ": " + strings.Repeat("v ", 5000) + "v\n\n"},
	} {
		if s, errno := head.Write(c.fields...); s != c.want || errno != api.OK {
			t.Errorf("Write(%.80q) = %.80q, %d", c.fields, s, errno)
		}
	}
	if s, errno := head.Write(); s != "\n" || errno != api.OK {
		t.Errorf("Write() = %q, %d", s, errno)
	}
}

// 8.2, P2
func TestWriteRefusesWhatIsWrong(t *testing.T) {
	var wrong []api.Field
	for _, name := range noNames {
		wrong = append(wrong, api.Field{Name: name, Value: "v"}, api.Field{Name: name})
	}
	for _, value := range noValues {
		wrong = append(wrong, api.Field{Name: "N", Value: value})
	}
	right := api.Field{Name: "A", Value: "b"}
	for _, f := range wrong {
		for _, l := range [][]api.Field{{f}, {right, f}, {f, right}, {right, f, right}} {
			if s, errno := head.Write(l...); s != "" || errno != api.ErrForm {
				t.Errorf("Write(%q) = %q, %d", l, s, errno)
			}
		}
	}
}

// 8.2, P2, P3
func TestWriteRefusesMoreFields(t *testing.T) {
	if s, errno := head.Write(many(api.MaxFields)...); errno != api.OK || !strings.HasSuffix(s, "N1023: v1023\n\n") {
		t.Errorf("so many as may be are %d bytes, %d", len(s), errno)
	}
	for _, n := range []int{api.MaxFields + 1, 2 * api.MaxFields} {
		if s, errno := head.Write(many(n)...); s != "" || errno != api.ErrLong {
			t.Errorf("%d fields are %d bytes, %d", n, len(s), errno)
		}
		for _, at := range []int{0, api.MaxFields, n - 1} { // what is wrong is told first, wherever it stands
			for _, f := range pairs("a b", "v", "", "", "a", "v ", "a", "v\nw") {
				l := many(n)
				l[at] = f
				if s, errno := head.Write(l...); s != "" || errno != api.ErrForm {
					t.Errorf("%d fields, that at %d wrong, are %d bytes, %d", n, at, len(s), errno)
				}
			}
		}
	}
}

// 8.3
func TestAnswersAreNewMemory(t *testing.T) {
	text := strings.Clone("A: b\nLong-Name: long value\n goes on\nX:y\n\nbody")
	kept := strings.Clone(text)
	one, _ := head.Parse(text)
	two, _ := head.Parse(text)
	texts := []string{text}
	for _, l := range [][]api.Field{one, two} {
		for _, f := range l {
			texts = append(texts, f.Name, f.Value)
		}
	}
	fields := slices.Clone(one)
	for _, name := range []string{"a", "long-name", "x"} {
		for range 2 {
			v, _ := head.Find(one, name)
			texts = append(append(texts, v), head.All(one, name)...)
		}
	}
	for range 2 {
		s, _ := head.Write(one...)
		texts = append(texts, s)
	}
	for i, a := range texts {
		for _, b := range texts[:i] {
			if shares(a, b) {
				t.Errorf("%q and %q share their memory", a, b)
			}
		}
	}
	if text != kept || !slices.Equal(one, fields) {
		t.Error("what is handed in is changed")
	}
	one[0].Value = "z"
	if two[0].Value != "b" {
		t.Error("lists of fields share their memory")
	}
	x, y := head.All(two, "a"), head.All(two, "a")
	if x[0] = "z"; y[0] != "b" || two[0].Value != "b" {
		t.Error("lists of values share their memory")
	}
}

// 8.4
func TestThereAndBack(t *testing.T) {
	r := rand.New(rand.NewSource(2))
	for range 20000 {
		var l []api.Field
		for range r.Intn(6) {
			l = append(l, randomField(r))
		}
		s, errno := head.Write(l...)
		if errno != api.OK {
			t.Fatalf("Write(%q): %d", l, errno)
		}
		for _, body := range []string{"", "\n", "A: b\n", " c\n", random(r, 9)} {
			if back, at := head.Parse(s + body); !slices.Equal(back, l) || at != len(s) {
				t.Fatalf("%q is written %q, and with %q behind it parsed as %q, %d", l, s, body, back, at)
			}
		}
	}
	l := many(api.MaxFields)
	s, _ := head.Write(l...)
	if back, at := head.Parse(s + "A: b\n"); !slices.Equal(back, l) || at != len(s) {
		t.Errorf("of so many as may be there are %d, and the body is at %d", len(back), at)
	}
}

// 8.4: what is parsed may be written, but for carriage returns that stand alone.
func TestWhatIsParsedIsWritten(t *testing.T) {
	r := rand.New(rand.NewSource(3))
	for range 20000 {
		l, _ := head.Parse("A:" + strings.ReplaceAll(random(r, 30), "\r", ""))
		s, errno := head.Write(l...)
		if back, at := head.Parse(s); errno != api.OK || !slices.Equal(back, l) || at != len(s) {
			t.Fatalf("%q is written %q, %d, and parsed as %q, %d", l, s, errno, back, at)
		}
	}
}

// P1 to P4
func TestAnythingIsAnswered(t *testing.T) {
	ahead := runtime.NumGoroutine()
	r := rand.New(rand.NewSource(4))
	for range 20000 {
		s := random(r, 30)
		l, at := head.Parse(s)
		again, same := head.Parse(s)
		if at < 0 || at > len(s) || at != same || !slices.Equal(l, again) {
			t.Fatalf("Parse(%q) = %q, %d", s, l, at)
		}
		l = append(l, api.Field{Name: random(r, 3), Value: random(r, 5)})
		name := random(r, 2)
		v, errno := head.Find(l, name)
		all := head.All(l, name)
		if errno == api.OK && (len(all) == 0 || all[0] != v) || errno != api.OK && (errno != api.ErrNone || v != "" || len(all) != 0) {
			t.Fatalf("of %q, by %q, there are %q, %d, and %q", l, name, v, errno, all)
		}
		if w, errno := head.Write(l...); errno != api.OK && (errno != api.ErrForm || w != "") {
			t.Fatalf("Write(%q) = %q, %d", l, w, errno)
		}
	}
	if behind := runtime.NumGoroutine(); behind > ahead { // fewer, if that of an earlier test was just ending
		t.Errorf("%d goroutines ahead, %d behind", ahead, behind)
	}
}

// P1: what is long is gone through once.
func TestLongTextsAreAnswered(t *testing.T) {
	const long = 1 << 22
	for _, c := range []struct {
		text string
		many int
	}{
		{"A:" + strings.Repeat("\n ", long), 1},
		{"A:" + strings.Repeat("\n b", long), 1},
		{strings.Repeat("A:\n", long), api.MaxFields},
		{strings.Repeat("A", long) + ":" + strings.Repeat("b", long), 1},
	} {
		if l, at := head.Parse(c.text); len(l) != c.many || at != len(c.text) {
			t.Errorf("of %.8q and so on there are %d fields, and the body is at %d", c.text, len(l), at)
		}
	}
	for _, text := range []string{strings.Repeat("A", long), strings.Repeat(" \n", long), strings.Repeat("\r", long)} {
		if l, at := head.Parse(text); len(l) != 0 || at != 0 {
			t.Errorf("of %.8q and so on there are %d fields, and the body is at %d", text, len(l), at)
		}
	}
}
