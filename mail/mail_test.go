package mail_test

import (
	"math/rand"
	"reflect"
	"runtime"
	"slices"
	"strings"
	"testing"
	"unsafe"

	"missive/api"
	"missive/fold"
	"missive/head"
	"missive/mail"
	"missive/mime"
	"missive/runes"
	"missive/word"
)

// The signatures that the chapter lists.
var (
	_ func(string) api.Doc               = mail.Read
	_ func(...int32) string              = mail.What
	_ func(api.Doc, string, string) bool = mail.InField
	_ func(api.Doc, string) bool         = mail.InBody
	_ func(api.Doc, string) bool         = mail.InText
	_ func(api.Doc) []uint64             = mail.Grams
)

// bad is the letter that stands for what is none, in UTF-8.
const bad = "\xef\xbf\xbd"

// multi is the header of a multipart with the boundary b.
const multi = "Content-Type: multipart/mixed; boundary=b\n\n"

// multiName and multiValue are its field, as a document has it.
const multiName, multiValue = "content-type", "multipart/mixed; boundary=b"

// read are mails, and their documents but for Size.
var read = []struct {
	text string
	doc  api.Doc
}{
	{"", api.Doc{}},
	{"\n", api.Doc{}},
	{"Hello", api.Doc{Body: list("hello")}},
	{"\nHello", api.Doc{Body: list("hello")}},
	{"Subject: =?utf-8?q?=C3=89t=C3=A9?=\nDate: 5 Feb 96\n\nHELLO World", api.Doc{Day: 9531, Dated: true, Names: list("subject", "date"), Values: list("\u00e9t\u00e9", "5 feb 96"), Body: list("hello world")}},
	// names and values
	{"SUBJECT: A\nX-Y_z!: =?latin1?b?yQ==?=\nx:\n\n", api.Doc{Names: list("subject", "x-y_z!", "x"), Values: list("a", "\u00e9", "")}},
	{"A: B\n C\nA: \xc3\x89\xff\n\n", api.Doc{Names: list("a", "a"), Values: list("b c", "\u00e9"+bad)}},
	{"A: =?utf-8?q?B?=  =?utf-8?q?C?= D\n\n", api.Doc{Names: list("a"), Values: list("bc d")}},
	{"A: =?none?q?B?=\n\n", api.Doc{Names: list("a"), Values: list("=?none?q?b?=")}},
	{"=?utf-8?q?A?=: B\n\n", api.Doc{Names: list("=?utf-8?q?a?="), Values: list("b")}},
	{"A: \xce\xa3\xcf\x82 \xe2\x84\xaa \xc5\xb8\n\n", api.Doc{Names: list("a"), Values: list("\u03c3\u03c3 k \u00ff")}},
	{"A: b\nno header\n\nC: d\n", api.Doc{Names: list("a"), Values: list("b"), Body: list("no header\n\nc: d\n")}},
	{"A: b\n\nC: d\n", api.Doc{Names: list("a"), Values: list("b"), Body: list("c: d\n")}},
	{" a: b\n", api.Doc{Body: list(" a: b\n")}},
	// days
	{"Date: Mon, 5 Feb 96 10:00 GMT\n\n", api.Doc{Day: 9531, Dated: true, Names: list("date"), Values: list("mon, 5 feb 96 10:00 gmt")}},
	{"dATE: 1 Jan 1970\n\n", api.Doc{Day: 0, Dated: true, Names: list("date"), Values: list("1 jan 1970")}},
	{"Date: 1 Jan 0001\n\n", api.Doc{Day: api.MinDay, Dated: true, Names: list("date"), Values: list("1 jan 0001")}},
	{"Date:\n 1 Jan\n 1970\n\n", api.Doc{Day: 0, Dated: true, Names: list("date"), Values: list("1 jan 1970")}},
	{"Date: yesterday\n\n", api.Doc{Names: list("date"), Values: list("yesterday")}},
	{"Date: 30 Feb 1996\n\n", api.Doc{Names: list("date"), Values: list("30 feb 1996")}},
	{"Date:\n\n", api.Doc{Names: list("date"), Values: list("")}},
	{"Date: 5 Feb 96\nDate: 6 Feb 96\n\n", api.Doc{Day: 9531, Dated: true, Names: list("date", "date"), Values: list("5 feb 96", "6 feb 96")}},
	{"Date: never\nDate: 6 Feb 96\n\n", api.Doc{Names: list("date", "date"), Values: list("never", "6 feb 96")}},
	{"Date: =?utf-8?q?5?= Feb 96\n\n", api.Doc{Names: list("date"), Values: list("5 feb 96")}},
	{"X-Date: 5 Feb 96\n\nDate: 5 Feb 96\n", api.Doc{Names: list("x-date"), Values: list("5 feb 96"), Body: list("date: 5 feb 96\n")}},
	// bodies
	{"\nABC\r\n\xc3\x89", api.Doc{Body: list("abc\r\n" + bad + bad)}},
	{"Content-Type: text/html; charset=UTF-8\n\n\xc3\x89\xc3", api.Doc{Names: list("content-type"), Values: list("text/html; charset=utf-8"), Body: list("\u00e9" + bad)}},
	{"Content-Type: text/plain; charset=latin1\nContent-Transfer-Encoding: Quoted-Printable\n\n=C9=\nA=ZZ", api.Doc{Names: list("content-type", "content-transfer-encoding"), Values: list("text/plain; charset=latin1", "quoted-printable"), Body: list("\u00e9a=zz")}},
	{"Content-Transfer-Encoding: base64\n\nQ!U*JD", api.Doc{Names: list("content-transfer-encoding"), Values: list("base64"), Body: list("abc")}},
	{"Content-Type: text/plain; charset=none\n\nA\xc9", api.Doc{Names: list("content-type"), Values: list("text/plain; charset=none"), Body: list("a" + bad)}},
	{"Content-Type: image/png\n\nABC", api.Doc{Names: list("content-type"), Values: list("image/png")}},
	{"Content-Type: none\n\nABC", api.Doc{Names: list("content-type"), Values: list("none"), Body: list("abc")}},
	// no letters
	{"A: b\n\n", api.Doc{Names: list("a"), Values: list("b")}},
	{"Content-Type: text/plain; charset=none\n\n", api.Doc{Names: list("content-type"), Values: list("text/plain; charset=none")}},
	{"Content-Transfer-Encoding: base64\n\n****", api.Doc{Names: list("content-transfer-encoding"), Values: list("base64")}},
	{multi + "--b\n\n--b\n\nOne\n--b--", api.Doc{Names: list(multiName), Values: list(multiValue), Body: list("one")}},
	// parts
	{multi + "X\n--b\nSubject: S\n\nOne\n--b\nContent-Type: image/png\n\nTwo\n--b\nContent-Type: text/x; charset=utf-8\n\n\xc3\x89\n--b--\nY", api.Doc{Names: list(multiName), Values: list(multiValue), Body: list("one", "\u00e9")}},
	{multi + "None", api.Doc{Names: list(multiName), Values: list(multiValue)}},
	{multi + "--b\nDate: 5 Feb 96\n\nOne\n--b--", api.Doc{Names: list(multiName), Values: list(multiValue), Body: list("one")}},
	{"Content-Type: message/rfc822\n\nSubject: S\nDate: 5 Feb 96\n\nOne", api.Doc{Names: list("content-type"), Values: list("message/rfc822"), Body: list("one")}},
	{multi + "--b\n\nOne\n--b\n\nOne\n--b--", api.Doc{Names: list(multiName), Values: list(multiValue), Body: list("one", "one")}},
}

// asked is a document that is asked.
var asked = api.Doc{
	Names:  list("subject", "to", "x", "subject", "empty", "\u00e9"),
	Values: list("\u00e9t\u00e9 abc", "me", "=?", "two", "", "accent"),
	Body:   list("hello world\n", "second text", ""),
}

// inField are names and texts, and whether a field has them.
var inField = []struct {
	name, what string
	is         bool
}{
	{"subject", "\u00e9t", true},
	{"SUBJECT", "\u00e9t\u00e9 abc", true},
	{"sUbJeCt", "abc", true},
	{"Subject", "t\xc3", true}, // byte by byte
	{"subject", "\xa9t", true},
	{"subject", "two", true},
	{"subject", "abctwo", false},
	{"subject", "abcd", false},
	{"subject", "ABC", false}, // it is looked for as it is
	{"subject", "\u00c9t", false},
	{"subject", "me", false},
	{"subject", "hello", false},
	{"subject", "subject", false},
	{"subject", ": ", false},
	{"to", "me", true},
	{"to", "m", true},
	{"to", "e", true},
	{"to", "em", false},
	{"to", "mee", false},
	{"t", "me", false},
	{"too", "me", false},
	{"to:", "me", false},
	{" to", "me", false},
	{"x", "=?", true},
	{"\u00c9", "accent", true},
	{"\u00e9", "cc", true},
	{"e", "accent", false},
	// nothing
	{"subject", "", true},
	{"empty", "", true},
	{"empty", " ", false},
	{"none", "", false},
	{"", "", false},
	{"", "me", false},
}

// inBody are texts, and whether the body has them.
var inBody = []struct {
	what string
	is   bool
}{
	{"hello", true}, {"world\n", true}, {"hello world\n", true}, {"o w", true}, {"second text", true}, {"text", true}, {"s", true}, {"\n", true}, {"", true},
	{"\nsecond", false}, {"world\nsecond", false}, {"hello  world", false}, {"Hello", false}, {"ext ", false}, {" second", false}, {"abc", false}, {"subject", false}, {"hello world\n\n", false}, {"\x00", false},
}

// inText are texts, and whether a field's line or the body has them.
var inText = []struct {
	what string
	is   bool
}{
	{"subject: \u00e9t\u00e9 abc", true}, {"subject: two", true}, {"ject: t", true}, {": ", true}, {"subject:", true}, {"to: me", true}, {"o: m", true}, {"x: =?", true}, {"empty: ", true}, {"empty:", true}, {"\u00e9: accent", true}, {"\xa9: a", true}, {"me", true}, {"hello world\n", true}, {"ond t", true}, {"", true},
	{"subject:two", false}, {"subject:  two", false}, {"Subject: two", false}, {"abcto", false}, {"abc\nto", false}, {"abc to", false}, {"meto", false}, {"to: me ", false}, {"\nto", false}, {"empty:  ", false}, {"accenthello", false}, {"world\nsecond", false}, {"to: two", false}, {"\u00c9: accent", false}, {"\xff", false},
}

// list is for short writing.
func list(l ...string) []string {
	return l
}

// letters tells those of a text in UTF-8.
func letters(s string) []int32 {
	return []int32([]rune(s))
}

// same takes nil and empty lists as alike.
func same(a, b api.Doc) bool {
	return a.Size == b.Size && a.Day == b.Day && a.Dated == b.Dated && slices.Equal(a.Names, b.Names) && slices.Equal(a.Values, b.Values) && slices.Equal(a.Body, b.Body)
}

// lines tells a document's fields' lines, and its body's texts.
func lines(d api.Doc) []string {
	var l []string
	for i, name := range d.Names {
		l = append(l, name+": "+d.Values[i])
	}
	return append(l, d.Body...)
}

// slowGrams gathers parts in a set.
func slowGrams(d api.Doc) []uint64 {
	set := map[uint64]bool{}
	for _, text := range lines(d) {
		l := letters(text)
		for i := 0; i+2 < len(l); i++ {
			set[uint64(l[i])<<42+uint64(l[i+1])<<21+uint64(l[i+2])] = true
		}
	}
	var l []uint64
	for part := range set {
		l = append(l, part)
	}
	slices.Sort(l)
	return l
}

// parts tells those of texts of three letters each.
func parts(texts ...string) []uint64 {
	var l []uint64
	for _, text := range texts {
		three := letters(text)
		l = append(l, uint64(three[0])<<42|uint64(three[1])<<21|uint64(three[2]))
	}
	slices.Sort(l)
	return l
}

// randomMail tells a mail of lines that mean something.
func randomMail(r *rand.Rand) string {
	some := []string{
		"Content-Type: multipart/mixed; boundary=b\n", "Content-Type: text/HTML; charset=UTF-8\n", "Content-Type: image/png\n", "Content-Type: message/rfc822\n", "Content-Type: text/plain; charset=none\n", "Content-Transfer-Encoding: base64\n", "Content-Transfer-Encoding: quoted-printable\n",
		"Subject: =?utf-8?q?=C3=89t?= =?latin1?b?6Q==?= X\n", "From: A <B@c>\n", "X:\n", "Date: 5 Feb 96\n", "Date: X\n", " More\n", "\n", "\n", "\n", "--b\n", "--b\n", "--b--\n", "HELLO World\r\n", "w6k=", "=C3=89=\n", "\xc3\x89", "\xff\x00", "--b",
	}
	var b strings.Builder
	for range r.Intn(16) {
		b.WriteString(some[r.Intn(len(some))])
	}
	return b.String()
}

// randomDoc tells a document that is made by hand.
func randomDoc(r *rand.Rand) api.Doc {
	texts := func() []string {
		var l []string
		for range r.Intn(4) {
			var b strings.Builder
			for range r.Intn(8) {
				b.WriteString([]string{"a", "b", "a", "b", "A", ":", " ", "\u00e9", "\u00c9", "\u20ac", "\xc3", "\xa9", "\xff", bad}[r.Intn(14)])
			}
			l = append(l, b.String())
		}
		return l
	}
	return api.Doc{Size: r.Int(), Day: r.Int(), Dated: r.Intn(2) == 0, Names: texts(), Values: texts(), Body: texts()}
}

// even leaves out names without values, and values without names.
func even(d api.Doc) api.Doc {
	many := min(len(d.Names), len(d.Values))
	d.Names, d.Values = d.Names[:many], d.Values[:many]
	return d
}

// shares tells whether two texts have a byte of memory together.
func shares(a, b string) bool {
	if a == "" || b == "" {
		return false
	}
	x, y := uintptr(unsafe.Pointer(unsafe.StringData(a))), uintptr(unsafe.Pointer(unsafe.StringData(b)))
	return x < y+uintptr(len(b)) && y < x+uintptr(len(a))
}

// 12.1
func TestRead(t *testing.T) {
	for _, c := range read {
		want := c.doc
		want.Size = len(c.text)
		if d := mail.Read(c.text); !same(d, want) {
			t.Errorf("Read(%q) = %#v, not %#v", c.text, d, want)
		}
	}
}

// 12.1
func TestReadIsAsItIsWorded(t *testing.T) {
	r := rand.New(rand.NewSource(1))
	for range 20000 {
		s := randomMail(r)
		d := mail.Read(s)
		fields, _ := head.Parse(s)
		if d.Size != len(s) || len(d.Names) != len(fields) || len(d.Values) != len(fields) {
			t.Fatalf("Read(%q) = %#v", s, d)
		}
		first := append(head.All(fields, "date"), "")[0]
		day, dated := 0, strings.HasPrefix(first, "5 Feb 96")
		if dated {
			day = 9531
		}
		if d.Day != day || d.Dated != dated {
			t.Fatalf("Read(%q) = %#v", s, d)
		}
		for i, f := range fields {
			if d.Names[i] != strings.ToLower(f.Name) || d.Values[i] != string([]rune(fold.Fold(word.Decode(f.Value)...))) {
				t.Fatalf("Read(%q) has the field %q, %q", s, d.Names[i], d.Values[i])
			}
		}
		var body []string
		for _, p := range mime.Parts(s) {
			l, _ := mime.Letters(p)
			if text := string([]rune(fold.Fold(l...))); text != "" {
				body = append(body, text)
			}
		}
		if !slices.Equal(d.Body, body) {
			t.Fatalf("Read(%q) has the body %q, not %q", s, d.Body, body)
		}
	}
}

// 12.1: those that head and mime leave out are left out.
func TestReadHasAsManyAsThereAre(t *testing.T) {
	for _, n := range []int{api.MaxFields - 1, api.MaxFields, api.MaxFields + 1} {
		d := mail.Read(strings.Repeat("A: b\n", n) + "Date: 5 Feb 96\n\n")
		if many := min(n+1, api.MaxFields); len(d.Names) != many || len(d.Values) != many || d.Dated != (n < api.MaxFields) {
			t.Errorf("of %d fields there are %d names, %d values, %v", n+1, len(d.Names), len(d.Values), d.Dated)
		}
	}
	for _, n := range []int{api.MaxParts - 2, api.MaxParts - 1, api.MaxParts, 2 * api.MaxParts} {
		d := mail.Read(multi + strings.Repeat("--b\n\nOne\n", n) + "--b--")
		if len(d.Body) != min(n, api.MaxParts-1) {
			t.Errorf("of %d parts there are %d texts", n, len(d.Body))
		}
	}
}

// 12.1
func TestWhat(t *testing.T) {
	for _, c := range []struct {
		letters []int32
		text    string
	}{
		{nil, ""},
		{[]int32{'A', 0xc9}, "a\u00e9"},
		{[]int32{'a', ' ', 'Z', '9'}, "a z9"},
		{[]int32{0x3a3, 0x3c2, 0x1e9e, 0x212a, 0x20ac}, "\u03c3\u03c3\u00dfk\u20ac"},
		{[]int32{0, '\n', 0x7f, 0x80}, "\x00\n\x7f\u0080"},
		{[]int32{0xd7ff, 0xe000, 0xffff, 0x10000, 0x10ffff}, "\ud7ff\ue000\uffff\U00010000\U0010ffff"},
		{[]int32{-1, 0xd800, 0xdfff, 0x110000, -1 << 31, 1<<31 - 1, api.Bad}, strings.Repeat(bad, 7)},
	} {
		if text := mail.What(c.letters...); text != c.text {
			t.Errorf("What(%x) = %q, not %q", c.letters, text, c.text)
		}
	}
	if mail.What() != "" || mail.What('X') != "x" {
		t.Error("none, or one, is not told")
	}
}

// 12.1: What of what is in a document is itself.
func TestWhatOfADocumentIsItself(t *testing.T) {
	r := rand.New(rand.NewSource(2))
	for range 5000 {
		s := randomMail(r)
		d := mail.Read(s)
		for _, text := range slices.Concat(d.Names, d.Values, d.Body) {
			if mail.What(runes.Letters(text)...) != text {
				t.Fatalf("of %q there is the text %q", s, text)
			}
		}
	}
}

// 12.2
func TestInField(t *testing.T) {
	for _, c := range inField {
		if mail.InField(asked, c.name, c.what) != c.is {
			t.Errorf("InField(%q, %q) = %v", c.name, c.what, !c.is)
		}
	}
	if mail.InField(api.Doc{}, "", "") || mail.InField(api.Doc{Body: list("a")}, "", "a") {
		t.Error("there is a field of none")
	}
	great := api.Doc{Names: list("To", "\xff"), Values: list("Me", "\xfe")}
	if !mail.InField(great, "tO", "Me") || mail.InField(great, "to", "me") || !mail.InField(great, "\xff", "\xfe") {
		t.Error("both names are to be folded, and nothing else")
	}
}

// 12.2
func TestInBody(t *testing.T) {
	for _, c := range inBody {
		if mail.InBody(asked, c.what) != c.is {
			t.Errorf("InBody(%q) = %v", c.what, !c.is)
		}
	}
	if mail.InBody(api.Doc{Names: list("a"), Values: list("b")}, "") || !mail.InBody(api.Doc{Body: list("")}, "") {
		t.Error("nothing is in a text, and in no other place")
	}
}

// 12.2
func TestInText(t *testing.T) {
	for _, c := range inText {
		if mail.InText(asked, c.what) != c.is {
			t.Errorf("InText(%q) = %v", c.what, !c.is)
		}
	}
	if mail.InText(api.Doc{}, "") || !mail.InText(api.Doc{Body: list("")}, "") || !mail.InText(api.Doc{Names: list(""), Values: list("")}, ": ") {
		t.Error("nothing is in a text, or in a line, and in no other place")
	}
}

// 12.2
func TestAllIsAskedAsItIsWorded(t *testing.T) {
	r := rand.New(rand.NewSource(3))
	found := 0
	for range 30000 {
		d := even(randomDoc(r))
		what := slices.Concat(list("", "a", "ab", ": ", ": a", "\xa9", "\u00e9", "aba"), d.Values)[r.Intn(8+len(d.Values))]
		inBody, inText := false, false
		for _, text := range d.Body {
			inBody = inBody || strings.Contains(text, what)
		}
		for _, text := range lines(d) {
			inText = inText || strings.Contains(text, what)
		}
		if mail.InBody(d, what) != inBody || mail.InText(d, what) != inText {
			t.Fatalf("of %#v InBody(%q) is %v, and InText is %v", d, what, !inBody, !inText)
		}
		for _, name := range append(list("a", "\u00c9"), d.Names...) {
			inField := false
			for i := range d.Names {
				inField = inField || mail.What(letters(name)...) == mail.What(letters(d.Names[i])...) && strings.Contains(d.Values[i], what)
			}
			if mail.InField(d, name, what) != inField {
				t.Fatalf("of %#v InField(%q, %q) is %v", d, name, what, !inField)
			}
			if inField {
				found++
			}
		}
	}
	if found < 1000 {
		t.Errorf("there were %d found alone", found)
	}
}

// 12.2
func TestGrams(t *testing.T) {
	for _, c := range []struct {
		doc   api.Doc
		parts []uint64
	}{
		{api.Doc{}, nil},
		{api.Doc{Size: 3, Day: 5, Dated: true}, nil},
		{api.Doc{Body: list("", "ab", "c")}, nil},
		{api.Doc{Body: list("abc")}, parts("abc")},
		{api.Doc{Body: list("abc", "abc")}, parts("abc")},
		{api.Doc{Body: list("abcab")}, parts("abc", "bca", "cab")},
		{api.Doc{Body: list("zab", "abc")}, parts("abc", "zab")},
		{api.Doc{Body: list("ab", "cd")}, nil},
		{api.Doc{Body: list("ABC")}, parts("ABC")}, // letters as they are: a document's are folded
		{api.Doc{Body: list("\u00e9\u20ac\U0001f600")}, parts("\u00e9\u20ac\U0001f600")},
		{api.Doc{Body: list("a\xffb")}, parts("a" + bad + "b")},
		{api.Doc{Names: list(""), Values: list("")}, nil},
		{api.Doc{Names: list("a"), Values: list("")}, parts("a: ")},
		{api.Doc{Names: list(""), Values: list("a")}, parts(": a")},
		{api.Doc{Names: list("to"), Values: list("me")}, parts("to:", "o: ", ": m", " me")},
		{api.Doc{Names: list("to", "x"), Values: list("me", "me"), Body: list("o: m", "me")}, parts("to:", "o: ", ": m", " me", "x: ")},
	} {
		if l := mail.Grams(c.doc); !slices.Equal(l, c.parts) {
			t.Errorf("Grams(%#v) = %x, not %x", c.doc, l, c.parts)
		}
	}
}

// 12.2
func TestGramsAreAsTheyAreWorded(t *testing.T) {
	r := rand.New(rand.NewSource(4))
	for range 10000 {
		for _, d := range []api.Doc{even(randomDoc(r)), mail.Read(randomMail(r))} {
			l := mail.Grams(d)
			if !slices.Equal(l, slowGrams(d)) {
				t.Fatalf("Grams(%#v) = %x, not %x", d, l, slowGrams(d))
			}
			for i := range l[min(1, len(l)):] {
				if l[i] >= l[i+1] {
					t.Fatalf("Grams(%#v) = %x: they do not rise", d, l)
				}
			}
		}
	}
}

// 12.3
func TestAnswersAreNewMemory(t *testing.T) {
	text := strings.Clone("subject: abc\nx-header: def\n\nhello world")
	kept := strings.Clone(text)
	one, two := mail.Read(text), mail.Read(text)
	var all []string
	for _, d := range []api.Doc{one, two} {
		all = slices.Concat(all, d.Names, d.Values, d.Body)
	}
	given := letters("plain")
	all = append(all, text, mail.What(given...), mail.What(given...))
	for i, a := range all {
		for _, b := range all[:i] {
			if shares(a, b) {
				t.Errorf("%q shares its memory with %q", a, b)
			}
		}
	}
	one.Names[0], one.Values[0], one.Body[0] = "x", "y", "z"
	_, _, _ = append(one.Names, "n"), append(one.Values, "v"), append(one.Body, "b")
	if !same(two, mail.Read(kept)) || text != kept {
		t.Error("documents share their memory, or the mail is changed")
	}
	great := letters("ABC")
	if mail.What(great...); !slices.Equal(great, letters("ABC")) {
		t.Error("what is handed in is changed")
	}
	x, y := mail.Grams(two), mail.Grams(two)
	if x[0] = 77; y[0] == 77 {
		t.Error("parts share their memory")
	}
}

// 12.3
func TestWhatIsAskedStays(t *testing.T) {
	r := rand.New(rand.NewSource(5))
	for range 3000 {
		d := randomDoc(r)
		kept := d
		kept.Names, kept.Values, kept.Body = slices.Clone(d.Names), slices.Clone(d.Values), slices.Clone(d.Body)
		mail.InField(d, "A", "b")
		mail.InBody(d, "b")
		mail.InText(d, "b")
		mail.Grams(d)
		if !reflect.DeepEqual(d, kept) {
			t.Fatalf("%#v is now %#v", kept, d)
		}
	}
}

// 12.4, 12.5
func TestWhatIsFoundHasItsPartsAndIsInTheText(t *testing.T) {
	r := rand.New(rand.NewSource(6))
	for i := range 20000 {
		d := mail.Read(randomMail(r))
		if i%2 == 0 {
			d = randomDoc(r)
		}
		all := lines(even(d))
		if len(all) == 0 {
			continue
		}
		l := letters(all[r.Intn(len(all))])
		from := r.Intn(len(l) + 1)
		what := mail.What(l[from : from+r.Intn(len(l)-from+1)]...)
		inField := false
		for _, name := range d.Names {
			inField = inField || mail.InField(d, name, what)
		}
		inText := mail.InText(d, what)
		if (inField || mail.InBody(d, what)) && !inText {
			t.Fatalf("%q is in %#v, and not in its text", what, d)
		}
		grams := mail.Grams(d)
		for _, part := range fold.Parts(runes.Letters(what)) {
			if inText && !slices.Contains(grams, part) {
				t.Fatalf("%q is in %#v, and its part %x is not", what, d, part)
			}
		}
	}
}

// P1: a document that is made by hand may have names without values, or values without names: these are no fields.
func TestUnevenDocumentsAreAnswered(t *testing.T) {
	for _, d := range []api.Doc{
		{Names: list("a", "b"), Values: list("one"), Body: list("text")},
		{Names: list("a"), Values: list("one", "two"), Body: list("text")},
	} {
		if !mail.InField(d, "a", "one") || mail.InField(d, "b", "") || mail.InField(d, "", "two") || mail.InField(d, "a", "two") {
			t.Errorf("fields of %#v are wrong", d)
		}
		if !mail.InText(d, "a: one") || !mail.InText(d, "text") || mail.InText(d, "b") || mail.InText(d, "tw") {
			t.Errorf("texts of %#v are wrong", d)
		}
		if !slices.Equal(mail.Grams(d), slowGrams(even(d))) {
			t.Errorf("parts of %#v are wrong", d)
		}
	}
	if none := (api.Doc{Names: list("a")}); mail.InField(none, "a", "") || mail.InText(none, "") || len(mail.Grams(none)) != 0 {
		t.Error("a name alone is a field")
	}
}

// P1 to P4
func TestAnythingIsAnswered(t *testing.T) {
	ahead := runtime.NumGoroutine()
	r := rand.New(rand.NewSource(7))
	for range 10000 {
		b := make([]byte, r.Intn(60))
		r.Read(b)
		for _, s := range []string{string(b), "Date: " + string(b), "Content-Type: " + string(b), multi + "--b\n" + string(b)} {
			d := mail.Read(s)
			if d.Size != len(s) || len(d.Names) != len(d.Values) || !same(d, mail.Read(s)) || !d.Dated && d.Day != 0 {
				t.Fatalf("Read(%q) = %#v", s, d)
			}
		}
		d, what, name := randomDoc(r), string(b), "x"
		if mail.InField(d, name, what) != mail.InField(d, name, what) || mail.InText(d, what) != mail.InText(d, what) || mail.InBody(d, what) && !mail.InText(d, what) || !slices.Equal(mail.Grams(d), mail.Grams(d)) {
			t.Fatalf("%#v is answered twice, and not alike", d)
		}
		mail.What(int32(r.Uint32()), int32(r.Uint32()>>r.Intn(33)))
	}
	if behind := runtime.NumGoroutine(); behind > ahead { // fewer, if that of an earlier test was just ending
		t.Errorf("%d goroutines ahead, %d behind", ahead, behind)
	}
}

// P1: what is long is answered, too.
func TestLongMailsAreAnswered(t *testing.T) {
	const long = 1 << 20
	d := mail.Read("Subject: " + strings.Repeat("Aab", long) + "\n\n" + strings.Repeat("A", 4*long))
	if len(d.Values) != 1 || len(d.Values[0]) != 3*long || len(d.Body) != 1 || len(d.Body[0]) != 4*long {
		t.Fatal("the mail is not read whole")
	}
	if mail.InText(d, strings.Repeat("a", 2*long)+"b") || !mail.InBody(d, strings.Repeat("a", 2*long)) || !mail.InField(d, "SUBJECT", strings.Repeat("aab", long/2)) {
		t.Error("what is long is not found as it is there")
	}
	want := parts("sub", "ubj", "bje", "jec", "ect", "ct:", "t: ", ": a", " aa", "aab", "aba", "baa", "aaa")
	if l := mail.Grams(d); !slices.Equal(l, want) {
		t.Errorf("there are %d parts, not %d", len(l), len(want))
	}
}
