package mime_test

import (
	"math/rand"
	"regexp"
	"runtime"
	"slices"
	"strconv"
	"strings"
	"testing"
	"unsafe"

	"missive/api"
	"missive/head"
	"missive/mime"
)

// The signatures that the chapter lists.
var (
	_ func(string) []api.Part                       = mime.Parts
	_ func(string) (string, []api.Field)            = mime.Type
	_ func([]api.Field, string) (string, api.Errno) = mime.Param
	_ func(api.Part) (string, int)                  = mime.Bytes
	_ func(api.Part) ([]int32, bool)                = mime.Letters
)

// bad stands for a letter that is none.
const bad = api.Bad

// kinds are values of Content-Type that are such, their types, and their parameters.
var kinds = []struct {
	value  string
	kind   string
	params []api.Field
}{
	{"text/plain", "text/plain", nil},
	{"Text/HTML", "text/html", nil},
	{"IMAGE/PNG", "image/png", nil},
	{" \ttext/html\t ", "text/html", nil},
	{"text/html ;", "text/html", nil},
	{"text/html;", "text/html", nil},
	{"text/html; \t ", "text/html", nil},
	{"a/b", "a/b", nil},
	{"!#$%&'*+-.^_`{|}~/0", "!#$%&'*+-.^_`{|}~/0", nil},
	{"Text/Plain ; charset=\"a\\\"b\"; x = y", "text/plain", pairs("charset", "a\"b", "x", "y")},
	// parameters as tokens: as they stand
	{"a/b;c=d", "a/b", pairs("c", "d")},
	{"a/b;C=D", "a/b", pairs("C", "D")},
	{"a/b \t; \tc\t = \td \t; e=f\t", "a/b", pairs("c", "d", "e", "f")},
	{"a/b;c=d;c=e;C=f", "a/b", pairs("c", "d", "c", "e", "C", "f")},
	{"a/b;!#$%&'*+-.^_`{|}~=~}|{`_^.-+*'&%$#!", "a/b", pairs("!#$%&'*+-.^_`{|}~", "~}|{`_^.-+*'&%$#!")},
	// parameters between quotation marks
	{`a/b;c=""`, "a/b", pairs("c", "")},
	{`a/b;c="" ; d=e`, "a/b", pairs("c", "", "d", "e")},
	{`a/b;c=" d "`, "a/b", pairs("c", " d ")},
	{`a/b;c="d;e=f";g=h`, "a/b", pairs("c", "d;e=f", "g", "h")},
	{`a/b;c="()<>@,;:/[]?="`, "a/b", pairs("c", "()<>@,;:/[]?=")},
	{`a/b;c="\\"`, "a/b", pairs("c", `\`)},
	{`a/b;c="\\\\";d=e`, "a/b", pairs("c", `\\`, "d", "e")},
	{`a/b;c="\"";d=e`, "a/b", pairs("c", `"`, "d", "e")},
	{`a/b;c="\d\ \;";e=f`, "a/b", pairs("c", "d ;", "e", "f")},
	{`a/b;c="d\"e\\f\gh"`, "a/b", pairs("c", `d"e\fgh`)},
	{"a/b;c=\"\x00\xff\xc3\xa9\r\t\\\xe9\"", "a/b", pairs("c", "\x00\xff\xc3\xa9\r\t\xe9")},
	// what is no parameter ends them
	{"a/b;c=d;;e=f", "a/b", pairs("c", "d")},
	{"a/b; ;c=d", "a/b", nil},
	{"a/b;;", "a/b", nil},
	{"a/b;c", "a/b", nil},
	{"a/b;c=d;e;f=g", "a/b", pairs("c", "d")},
	{"a/b;c=d;e=;f=g", "a/b", pairs("c", "d")},
	{"a/b;c=d;=e;f=g", "a/b", pairs("c", "d")},
	{"a/b;c=d;=", "a/b", pairs("c", "d")},
	{"a/b;c=d;\"e\"=f;g=h", "a/b", pairs("c", "d")},
	{"a/b;c=d;e f=g;h=i", "a/b", pairs("c", "d")},
	{"a/b;c=d;e==f;g=h", "a/b", pairs("c", "d")},
	{"a/b;c=d;e:f;g=h", "a/b", pairs("c", "d")},
	{"a/b;c=d;(x)e=f", "a/b", pairs("c", "d")},
	{"a/b;c=d;e(x)=f", "a/b", pairs("c", "d")},
	{"a/b;c=d;e=(x)f", "a/b", pairs("c", "d")},
	{"a/b;c=d;\xc3\xa9=f", "a/b", pairs("c", "d")},
	{"a/b;c=d;e=\xc3\xa9", "a/b", pairs("c", "d")},
	{"a/b;c=d;\re=f", "a/b", pairs("c", "d")},
	{"a/b;c=d,e=f;g=h", "a/b", pairs("c", "d")},
	{"a/b;c=d (x);e=f", "a/b", pairs("c", "d")},
	{"a/b;c=d e=f;g=h", "a/b", pairs("c", "d")},
	{"a/b;c=d\"e\";g=h", "a/b", pairs("c", "d")},
	{"a/b;c=d/e;g=h", "a/b", pairs("c", "d")},
	{"a/b;c=d=e;g=h", "a/b", pairs("c", "d")},
	{`a/b;c="d"e;g=h`, "a/b", pairs("c", "d")},
	{`a/b;c="d""e";g=h`, "a/b", pairs("c", "d")},
	{`a/b;c=d;e="`, "a/b", pairs("c", "d")},
	{`a/b;c=d;e="f;g=h`, "a/b", pairs("c", "d")},
	{`a/b;c=d;e="f\"`, "a/b", pairs("c", "d")},
	{`a/b;c=d;e="f\`, "a/b", pairs("c", "d")},
	{`a/b;c=d;e='f g'`, "a/b", pairs("c", "d", "e", "'f")},
}

// noKinds are values that are no content types.
var noKinds = []string{
	"", " ", "\t", ";", "; ", ";charset=utf-8", "text", "text;charset=utf-8", "text/;charset=utf-8", "/plain;charset=utf-8", "/", "//", "/;", "text//plain", "text/plain/", "/text/plain", "text/plain/x;charset=utf-8",
	"text /plain", "text/ plain", "text / plain", "text/pl ain", "te xt/plain", "text/plain x", "text/plain charset=utf-8", "text/plain charset=utf-8; x=y", "text\t/plain",
	"text/plain,", "text/plain, text/html", "text/plain (x)", "(x) text/plain", "text/\"plain\"", "\"text/plain\"", "\"text/plain;x=y\"", "text/plain\r", "\rtext/plain", "text/plain\n", "\x00/a", "a/\x00", "a/\x7f", "\x7f/a", "t\xc3\xa9xt/plain", "text/\xff", "text=plain", "text:plain", "text\\plain", "text/plain:", "<text/plain>", "text@plain/x", "[text/plain]", "text/plain?", "text/plain=utf-8",
}

// pairs tells fields by their names and values.
func pairs(texts ...string) []api.Field {
	var l []api.Field
	for i := 0; i+1 < len(texts); i += 2 {
		l = append(l, api.Field{Name: texts[i], Value: texts[i+1]})
	}
	return l
}

// plain tells a part of plain text.
func plain(level int, body string) api.Part {
	return api.Part{Level: level, Type: "text/plain", Charset: "us-ascii", Coding: "7bit", Body: body}
}

// typed tells a part of that type.
func typed(level int, kind, body string) api.Part {
	return api.Part{Level: level, Type: kind, Charset: "us-ascii", Coding: "7bit", Body: body}
}

// mixed tells a multipart with the boundary b, that has parts of its own.
func mixed(level int) api.Part {
	return typed(level, "multipart/mixed", "")
}

// multi is the header of a multipart with the boundary b.
const multi = "Content-Type: multipart/mixed; boundary=b\n\n"

// cut are bodies of such a one, and the bodies of their parts: none, if none begins.
var cut = []struct {
	body  string
	parts []string
}{
	{"--b\n\none\n--b\n\ntwo\n--b--\n", []string{"one", "two"}},
	{"x\n--b\n\none\n--b\n\ntwo\n--b--\nz", []string{"one", "two"}},
	{"x\r\n--b\r\n\r\none\r\n--b\r\n\r\ntwo\r\n--b--\r\nz", []string{"one", "two"}},
	// none begins
	{"", nil},
	{"\n", nil},
	{"x", nil},
	{"x\n\n--c\n\none\n--c--\n", nil},
	{"--b--", nil},
	{"x\n--b--\ny", nil},
	{"--", nil},
	{"--\n----\n", nil},
	{"b\n-b\n---b\n", nil},
	{" --b\n\none\n --b--\n", nil},
	{"x--b\n\none\nx--b--\n", nil},
	{"--B\n\none\n--B--\n", nil},
	{"--\"b\"\n\none\n", nil},
	// what another one begins with
	{"--bb\n\none\n--bb--\n", nil},
	{"--b-\n\none\n--b---\n", nil},
	{"--b\n\none\n--bb\n--b-\n--b---\n--b-- -\n--b --\n--bx\n--b x\n--b--x\ntwo\n--b--", []string{"one\n--bb\n--b-\n--b---\n--b-- -\n--b --\n--bx\n--b x\n--b--x\ntwo"}},
	// blanks behind it
	{"--b \n\none\n--b\t \t\n\ntwo\n--b-- \t\nz", []string{"one", "two"}},
	{"--b \r\n\r\none\r\n--b\t\r\n\r\ntwo\r\n--b--\t\r\nz", []string{"one", "two"}},
	{"--b\v\n\none\n", nil},
	{"--b\r\r\n\none\n", nil},
	{"--b \r \n\none\n", nil},
	{"--b\r", nil},
	{"--b\n\none\n--b\r", []string{"one\n--b\r"}},
	{"--b\x00\n\none\n", nil},
	{"--b\u00a0\n\none\n", nil},
	// what is ahead of the first, and behind the last
	{"\n\n\n--b\n\none\n--b--", []string{"one"}},
	{"A: b\n\n--b\n\none\n--b--", []string{"one"}},
	{"--b\n\none\n--b--\n--b\n\ntwo\n--b--\n", []string{"one"}},
	{"--b\n\none\n--b--\n\n--b--\n\n--b\n", []string{"one"}},
	{"--b--\n--b\n\none\n--b--\n", []string{"one"}}, // there is no last one that it could end
	// without an end
	{"--b\n\none", []string{"one"}},
	{"--b\n\none\n", []string{"one\n"}},
	{"--b\n\none\r\n", []string{"one\r\n"}},
	{"--b\n\none\n\n", []string{"one\n\n"}},
	{"--b\n\none\n--b\n\ntwo\n", []string{"one", "two\n"}},
	{"--b\n\none\n--b\n\ntwo\n--b-", []string{"one", "two\n--b-"}},
	// the line's end ahead of the boundary's line
	{"--b\n\none\r\n--b\n\ntwo\n--b--", []string{"one", "two"}},
	{"--b\n\none\n\n--b\n\ntwo\r\n\r\n--b--", []string{"one\n", "two\r\n"}},
	{"--b\n\none\r\r\n--b--", []string{"one\r"}},
	{"--b\n\none\n\r\n--b--", []string{"one\n"}},
	{"--b\n\none\r\n\n--b--", []string{"one\r\n"}},
	{"--b\n\none\r--b--\n--b--", []string{"one\r--b--"}},
	{"--b\n\none\n \n--b--", []string{"one\n "}},
	// no bytes
	{"--b", []string{""}},
	{"--b\n", []string{""}},
	{"--b\r\n", []string{""}},
	{"--b\n--b--", []string{""}},
	{"--b\r\n--b--", []string{""}},
	{"--b\n\n--b--", []string{""}},
	{"--b\r\n\r\n--b--", []string{""}},
	{"--b\n\r\n--b--", []string{""}},
	{"--b\n\n\n--b--", []string{""}},
	{"--b\n\n\n\n--b--", []string{"\n"}},
	{"--b\n--b\n--b\n--b--", []string{"", "", ""}},
	{"--b\n--b\n--b", []string{"", "", ""}},
	{"--b\n--b\n\none\n--b\n", []string{"", "one", ""}},
	{"x\n--b", []string{""}},
	// a part is a mail of its own: what is no header is body
	{"--b\none\n--b--", []string{"one"}},
	{"--b\none\n\ntwo\n--b--", []string{"one\n\ntwo"}},
	{"--b\nA: b\none\n--b--", []string{"one"}},
	{"--b\nA: b\n--b--", []string{""}},
	{"--b\nA: b\n\n--b--", []string{""}},
	{"--b\nA: b\n\n\n--b--", []string{""}},
	{"--b\nA: b\n\n\xff\x00\n--b--", []string{"\xff\x00"}},
}

// trees are mails whose parts are not all plain.
var trees = []struct {
	text  string
	parts []api.Part
}{
	{"", []api.Part{plain(0, "")}},
	{"\n", []api.Part{plain(0, "")}},
	{"body", []api.Part{plain(0, "body")}},
	{"\xff\x00\n\n", []api.Part{plain(0, "\xff\x00\n\n")}},
	{"A: b\n\nbody\n", []api.Part{plain(0, "body\n")}},
	{"A: b\nbody\n", []api.Part{plain(0, "body\n")}},
	{"A: b\n", []api.Part{plain(0, "")}},
	// the fields
	{"Content-Type: Text/HTML; Charset=UTF-8\nContent-Transfer-Encoding: BASE64\n\nx", []api.Part{{Type: "text/html", Charset: "utf-8", Coding: "base64", Body: "x"}}},
	{"content-type:\n text/html;\n\tcharset=\"Latin1\"\nCONTENT-TRANSFER-ENCODING:\n Quoted-Printable \n\nx", []api.Part{{Type: "text/html", Charset: "latin1", Coding: "quoted-printable", Body: "x"}}},
	{"Content-Type: image/png; name=x\nContent-Transfer-Encoding: \t8BIT\t\n\nx", []api.Part{{Type: "image/png", Charset: "us-ascii", Coding: "8bit", Body: "x"}}},
	{"Content-Type: none; charset=utf-8\n\nx", []api.Part{plain(0, "x")}},
	{"Content-Type:\n\nx", []api.Part{plain(0, "x")}},
	{"Content-Type: multipart; boundary=b\n\n--b\n\none", []api.Part{plain(0, "--b\n\none")}},
	{"Content-Type: text/a; charset=b; charset=c\nContent-Type: text/d\nContent-Transfer-Encoding: e\nContent-Transfer-Encoding: f\n\nx", []api.Part{{Type: "text/a", Charset: "b", Coding: "e", Body: "x"}}},
	{"Content-Type: text/plain; charset=\"\"\nContent-Transfer-Encoding:\n\nx", []api.Part{{Type: "text/plain", Body: "x"}}},
	{"Content-Type: text/plain; charset=\"\u212a\xc3\x89\xffZ\"\nContent-Transfer-Encoding: a (B) \u212a\xffC\n\nx", []api.Part{{Type: "text/plain", Charset: "\u212a\xc3\x89\xffz", Coding: "a (b) \u212a\xffc", Body: "x"}}},
	// boundaries
	{"Content-Type: multipart/mixed\n\n--b\n\none\n--b--", []api.Part{typed(0, "multipart/mixed", "--b\n\none\n--b--")}},
	{"Content-Type: multipart/mixed; boundary=\"\"\n\n--\n\none\n----", []api.Part{typed(0, "multipart/mixed", "--\n\none\n----")}},
	{"Content-Type: multipart/mixed; boundary=\"\"; boundary=b\n\n--b\n\none", []api.Part{typed(0, "multipart/mixed", "--b\n\none")}},
	{"Content-Type: multipart/mixed; boundary\n\n--b\n\none", []api.Part{typed(0, "multipart/mixed", "--b\n\none")}},
	{"Content-Type: MULTIPART/X; BOUNDARY=\"b;\\\" c\"\n\n--b;\" c\n\none\n--b;\" c--", []api.Part{typed(0, "multipart/x", ""), plain(1, "one")}},
	{"Content-Type: multipart/mixed; boundary=--\n\n----\n\none\n------\nz", []api.Part{mixed(0), plain(1, "one")}},
	{"Content-Type: multipart/mixed; boundary=\"\xff\"\n\n--\xff\n\none\n--\xff--\nz", []api.Part{mixed(0), plain(1, "one")}},
	{"Content-Type: multipart/mixed; boundary=\"b \"\n\n--b\n--b \n\none\n--b  \n\ntwo\n--b --\nz", []api.Part{mixed(0), plain(1, "one"), plain(1, "two")}},
	{"Content-Type: multi/part; boundary=b\n\n--b\n\none", []api.Part{typed(0, "multi/part", "--b\n\none")}},
	{"Content-Type: multiparty/x; boundary=b\n\n--b\n\none", []api.Part{typed(0, "multiparty/x", "--b\n\none")}},
	{"Content-Type: x-multipart/mixed; boundary=b\n\n--b\n\none", []api.Part{typed(0, "x-multipart/mixed", "--b\n\none")}},
	{"Content-Type: text/plain; boundary=b\n\n--b\n\none", []api.Part{plain(0, "--b\n\none")}},
	// parts within parts
	{multi + "--b\nContent-Type: multipart/alternative; boundary=c\n\n--c\n\none\n--c\n\ntwo\n--c--\n--b\n\nthree\n--b--", []api.Part{mixed(0), typed(1, "multipart/alternative", ""), plain(2, "one"), plain(2, "two"), plain(1, "three")}},
	{multi + "--b\nContent-Type: multipart/alternative; boundary=bb\n\n--bb\n\none\n--bb\n\ntwo\n--bb--\n--b\n\nthree\n--b--", []api.Part{mixed(0), typed(1, "multipart/alternative", ""), plain(2, "one"), plain(2, "two"), plain(1, "three")}},
	{multi + "--b\nContent-Type: multipart/alternative; boundary=c\n\n--c\n\none\n--b\n\ntwo\n--c--\n", []api.Part{mixed(0), typed(1, "multipart/alternative", ""), plain(2, "one"), plain(1, "two\n--c--\n")}},
	{multi + "--b\n" + multi + "--b\n\none\n--b--\n", []api.Part{mixed(0), typed(1, "multipart/mixed", ""), plain(1, "one")}},
	{multi + "--b\nContent-Type: multipart/alternative; boundary=b--\n\n--b--\n\none\n--b----\n", []api.Part{mixed(0), typed(1, "multipart/alternative", "")}},
	{multi + "--b\nContent-Type: Text/HTML; charset=\"UTF-8\"\nContent-Transfer-Encoding: base64\n\nw6k=\n--b--\nz", []api.Part{mixed(0), {Level: 1, Type: "text/html", Charset: "utf-8", Coding: "base64", Body: "w6k="}}},
	{"Content-Type: multipart/mixed; boundary=b; charset=x\nContent-Transfer-Encoding: base64\n\n--b\n\none\n--b--", []api.Part{{Type: "multipart/mixed", Charset: "x", Coding: "base64"}, plain(1, "one")}},
	// messages
	{"Content-Type: message/rfc822\n\nA: b\n\nbody\n", []api.Part{typed(0, "message/rfc822", ""), plain(1, "body\n")}},
	{"Content-Type: Message/RFC822; x=y\nContent-Transfer-Encoding: base64\n\nA: b\n\nbody\n", []api.Part{{Type: "message/rfc822", Charset: "us-ascii", Coding: "base64"}, plain(1, "body\n")}},
	{"Content-Type: message/rfc822\n\n", []api.Part{typed(0, "message/rfc822", ""), plain(1, "")}},
	{"Content-Type: message/rfc822", []api.Part{typed(0, "message/rfc822", ""), plain(1, "")}},
	{"Content-Type: message/rfc822\n\nno header", []api.Part{typed(0, "message/rfc822", ""), plain(1, "no header")}},
	{"Content-Type: message/rfc8222\n\nA: b\n\nx", []api.Part{typed(0, "message/rfc8222", "A: b\n\nx")}},
	{"Content-Type: message/partial\n\nA: b\n\nx", []api.Part{typed(0, "message/partial", "A: b\n\nx")}},
	{"Content-Type: message/rfc822\n\n" + multi + "--b\nContent-Type: message/rfc822\n\nA: b\n\none\n--b\n\ntwo\n--b--", []api.Part{typed(0, "message/rfc822", ""), mixed(1), typed(2, "message/rfc822", ""), plain(3, "one"), plain(2, "two")}},
}

// codings are such, bodies, their bytes, and how many were counted.
var codings = []struct {
	coding, body, bytes string
	counted             int
}{
	{"base64", "", "", 0},
	{"base64", "w6k=", "\xc3\xa9", 0},
	{"base64", "w6\r\nk = zzz", "\xc3\xa9", 0},
	{"base64", "\xffw!6*k=!", "\xc3\xa9", 3},
	{"base64", "****", "", 4},
	{"quoted-printable", "", "", 0},
	{"quoted-printable", "a=3Db=\nc \n", "a=bc\n", 0},
	{"quoted-printable", "=C3=a9 =G0==", "\xc3\xa9 =G0=", 2},
	{"quoted-printable", "=C3=a9=", "\xc3\xa9", 0},
	{"7bit", "w6k=3D\xff \r\n", "w6k=3D\xff \r\n", 0},
	{"8bit", "\xff=3D", "\xff=3D", 0},
	{"binary", "\x00", "\x00", 0},
	{"", "w6k=3D", "w6k=3D", 0},
	{"x-uuencode", "w6k=3D!", "w6k=3D!", 0},
	{"base64 ", "w6k=", "w6k=", 0},
	{"base-64", "w6k=", "w6k=", 0},
	{"BASE64", "w6k=", "w6k=", 0}, // a part's coding is in small letters
	{"quoted", "=3D", "=3D", 0},
	{"Quoted-Printable", "=3D", "=3D", 0},
}

// charsets are names of such, bytes, their letters, and whether there is such a charset.
var charsets = []struct {
	charset, bytes string
	letters        []int32
	is             bool
}{
	{"us-ascii", "a\xe9", []int32{'a', bad}, true},
	{"ascii", "a\xe9", []int32{'a', bad}, true},
	{"utf-8", "\xc3\xa9\xe9\xe2\x82\xac", []int32{0xe9, bad, 0x20ac}, true},
	{"utf8", "\xc3", []int32{bad}, true},
	{"UTF-8", "\xc3\xa9", []int32{0xe9}, true},
	{"iso-8859-1", "\xe9\x80", []int32{0xe9, 0x80}, true},
	{"Latin1", "\xa4", []int32{0xa4}, true},
	{"iso-8859-15", "\xa4", []int32{0x20ac}, true},
	{"windows-1252", "\x80\x81", []int32{0x20ac, bad}, true},
	{"utf-8", "", nil, true},
	{"koi8-r", "a\xc3\xa9b", []int32{'a', bad, bad, 'b'}, false},
	{"koi8-r", "", nil, false},
	{"", "a\xe9", []int32{'a', bad}, false},
	{"utf-8 ", "\xc3\xa9", []int32{bad, bad}, false},
	{"\xff", "a", []int32{'a'}, false},
}

// tokenBytes are those that a token may have.
const tokenBytes = "!#$%&'*+-.0123456789ABCDEFGHIJKLMNOPQRSTUVWXYZ^_`abcdefghijklmnopqrstuvwxyz{|}~"

// patterns, as the chapter words what they find.
var (
	slowKind  = regexp.MustCompile("^[ \t]*([" + regexp.QuoteMeta(tokenBytes) + "]+/[" + regexp.QuoteMeta(tokenBytes) + "]+)[ \t]*$")
	slowParam = regexp.MustCompile("(?s)^;[ \t]*([" + regexp.QuoteMeta(tokenBytes) + "]+)[ \t]*=[ \t]*([" + regexp.QuoteMeta(tokenBytes) + "]+|\"(?:[^\"\\\\]|\\\\.)*\")[ \t]*")
	slowBack  = regexp.MustCompile(`(?s)\\(.)`)
	slowEnd   = regexp.MustCompile(`\r?\n$`)
)

// lower takes no letters but those of ASCII as great, and leaves bytes of no letter.
func lower(s string) string {
	b := []byte(s)
	for i := range b {
		if at := strings.IndexByte("ABCDEFGHIJKLMNOPQRSTUVWXYZ", b[i]); at >= 0 {
			b[i] = "abcdefghijklmnopqrstuvwxyz"[at]
		}
	}
	return string(b)
}

// slowType reads as the chapter words it: by patterns.
func slowType(value string) (string, []api.Field) {
	kind, _, _ := strings.Cut(value, ";")
	m := slowKind.FindStringSubmatch(kind)
	if m == nil {
		return "text/plain", nil
	}
	var l []api.Field
	for rest := value[len(kind):]; ; {
		p := slowParam.FindStringSubmatch(rest)
		if p == nil {
			return strings.ToLower(m[1]), l
		}
		v := p[2]
		if v[0] == '"' {
			v = slowBack.ReplaceAllString(v[1:len(v)-1], "$1")
		}
		l = append(l, api.Field{Name: p[1], Value: v})
		rest = rest[len(p[0]):]
	}
}

// slowParts reads as the chapter words it: each part's own ones by themselves.
func slowParts(s string, level int) []api.Part {
	fields, at := head.Parse(s)
	p := plain(level, s[at:])
	params := []api.Field(nil)
	if v := head.All(fields, "content-type"); len(v) > 0 {
		p.Type, params = slowType(v[0])
	}
	if v := head.All(params, "charset"); len(v) > 0 {
		p.Charset = lower(v[0])
	}
	if v := head.All(fields, "content-transfer-encoding"); len(v) > 0 {
		p.Coding = lower(v[0])
	}
	var kids []string
	if b := head.All(params, "boundary"); strings.HasPrefix(p.Type, "multipart/") && len(b) > 0 && b[0] != "" {
		kids = slowCut(p.Body, b[0])
	}
	if p.Type == "message/rfc822" {
		kids = []string{p.Body}
	}
	if len(kids) == 0 || level == api.MaxLevel {
		return []api.Part{p}
	}
	p.Body = ""
	l := []api.Part{p}
	for _, kid := range kids {
		l = append(l, slowParts(kid, level+1)...)
	}
	return l
}

// slowCut gathers lines, each with its end, and takes the last end off.
func slowCut(body, boundary string) []string {
	mark := regexp.MustCompile("^--" + regexp.QuoteMeta(boundary) + "(--)?[ \t]*$")
	var kids []string
	begun, text := false, ""
	for _, whole := range strings.SplitAfter(body, "\n") {
		m := mark.FindStringSubmatch(slowEnd.ReplaceAllString(whole, ""))
		if m == nil {
			text += whole
			continue
		}
		if begun {
			kids = append(kids, slowEnd.ReplaceAllString(text, ""))
		}
		if begun && m[1] != "" {
			return kids
		}
		begun, text = begun || m[1] == "", ""
	}
	if begun {
		kids = append(kids, text)
	}
	return kids
}

// randomValue tells a content type's value of pieces that mean something.
func randomValue(r *rand.Rand, most int) string {
	some := []string{"a", "B", "text/plain", "/", ";", ";", ";", "=", "=", "\"", "\"", "\\", " ", "\t", "c=d", ";e=f", ";g=\"h\"", "(", "\r", "\xff", "\xc3\xa9", "\x00", "utf-8", ";charset=", "!~"}
	var b strings.Builder
	if r.Intn(4) > 0 {
		b.WriteString("a/B")
	}
	for range r.Intn(most) {
		b.WriteString(some[r.Intn(len(some))])
	}
	return b.String()
}

// randomMail tells a mail of lines that mean something.
func randomMail(r *rand.Rand, most int) string {
	some := []string{
		"Content-Type: multipart/mixed; boundary=b", "Content-Type: multipart/mixed; boundary=b", "Content-Type: Multipart/X; boundary=\"bb\"", "Content-Type: multipart/mixed; boundary=b-", "Content-Type: multipart/mixed",
		"--b\nContent-Type: multipart/x; boundary=bb\n\n--bb", "--bb\r\nContent-Type: multipart/x; boundary=b-\r\n\r\n--b-", "Content-Type: message/rfc822\n", "--b\nContent-Type: message/rfc822\n",
		"Content-Type: message/rfc822", "Content-Type: text/html; charset=UTF-8", "Content-Type: x", "Content-Transfer-Encoding: Base64", "A: b", " c", "one", "w6k=", "\xff\x00",
		"", "", "", "", "--b", "--b", "--b", "--bb", "--bb", "--b-", "--b--", "--bb--", "--b---", "--b \t", "--b-- ", "--bb ", "--b x", "--", "\r",
	}
	ends := []string{"\n", "\n", "\n", "\r\n", "\r\n", "\r\r\n", "\r", ""}
	var b strings.Builder
	if r.Intn(4) > 0 {
		b.WriteString(some[r.Intn(4)] + "\n\n")
	}
	for range r.Intn(most) {
		b.WriteString(some[r.Intn(len(some))])
		b.WriteString(ends[r.Intn(len(ends)-2*r.Intn(2))])
	}
	return b.String()
}

// levels tells the levels of parts.
func levels(l []api.Part) []int {
	var some []int
	for _, p := range l {
		some = append(some, p.Level)
	}
	return some
}

// shares tells whether two texts have a byte of memory together.
func shares(a, b string) bool {
	if a == "" || b == "" {
		return false
	}
	x, y := uintptr(unsafe.Pointer(unsafe.StringData(a))), uintptr(unsafe.Pointer(unsafe.StringData(b)))
	return x < y+uintptr(len(b)) && y < x+uintptr(len(a))
}

// 11.1
func TestType(t *testing.T) {
	for _, c := range kinds {
		if kind, params := mime.Type(c.value); kind != c.kind || !slices.Equal(params, c.params) {
			t.Errorf("Type(%q) = %q, %q, not %q, %q", c.value, kind, params, c.kind, c.params)
		}
	}
}

// 11.1
func TestWhatIsNoTypeIsPlainText(t *testing.T) {
	for _, value := range noKinds {
		if kind, params := mime.Type(value); kind != "text/plain" || len(params) != 0 {
			t.Errorf("Type(%q) = %q, %q", value, kind, params)
		}
		l := mime.Parts("Content-Type: " + strings.ReplaceAll(value, "\n", "\r") + "; charset=utf-8; boundary=b\n\n--b\n\none")
		if want := []api.Part{plain(0, "--b\n\none")}; !slices.Equal(l, want) {
			t.Errorf("a mail of type %q has the parts %#v", value, l)
		}
	}
}

// 11.1
func TestEachByteIsOneOfATokenOrNot(t *testing.T) {
	for c := range 256 {
		one := string([]byte{byte(c)})
		is := strings.Contains(tokenBytes, one)
		for _, token := range []string{one, one + "a", "a" + one, "a" + one + "a"} {
			if c == ' ' || c == '\t' { // these may stand around a token
				token = "a" + one + "a"
			}
			small := strings.ToLower(token)
			if kind, _ := mime.Type(token + "/x"); (kind == small+"/x") != is || !is && kind != "text/plain" {
				t.Errorf("Type(%q) = %q", token+"/x", kind)
			}
			if kind, _ := mime.Type("x/" + token); c != ';' && ((kind == "x/"+small) != is || !is && kind != "text/plain") {
				t.Errorf("Type(%q) = %q", "x/"+token, kind)
			}
			if _, l := mime.Type("a/b;" + token + "=v"); c != '=' && slices.Equal(l, pairs(token, "v")) != is {
				t.Errorf("of a name %q there are %q", token, l)
			}
			if _, l := mime.Type("a/b;n=" + token); slices.Equal(l, pairs("n", token)) != is {
				t.Errorf("of a value %q there are %q", token, l)
			}
		}
		if _, l := mime.Type("a/b;n=\"x\\" + one + "y\";o=p"); !slices.Equal(l, pairs("n", "x"+one+"y", "o", "p")) {
			t.Errorf("of %q behind a backslash there are %q", one, l)
		}
		if _, l := mime.Type("a/b;n=\"x" + one + "y\";o=p"); c != '"' && c != '\\' && !slices.Equal(l, pairs("n", "x"+one+"y", "o", "p")) {
			t.Errorf("of %q between quotation marks there are %q", one, l)
		}
	}
}

// 11.1
func TestTypeIsAsItIsWorded(t *testing.T) {
	r := rand.New(rand.NewSource(1))
	params := 0
	for range 60000 {
		value := randomValue(r, 12)
		want, fields := slowType(value)
		kind, l := mime.Type(value)
		if kind != want || !slices.Equal(l, fields) {
			t.Fatalf("Type(%q) = %q, %q, not %q, %q", value, kind, l, want, fields)
		}
		params += len(l)
	}
	if params < 5000 {
		t.Errorf("there were %d parameters alone", params)
	}
}

// 11.1, P2
func TestParamIsAsFind(t *testing.T) {
	l := pairs("Charset", "one", "x", "", "cHARSET", "two", "", "none", "\u017f", "s")
	for _, name := range []string{"charset", "CHARSET", "x", "X", "", "s", "y", "charset ", "\u017f", "\xff"} {
		v, errno := mime.Param(l, name)
		want, other := head.Find(l, name)
		if v != want || errno != other {
			t.Errorf("Param(%q) = %q, %d, not %q, %d", name, v, errno, want, other)
		}
	}
	if v, errno := mime.Param(l, "charset"); v != "one" || errno != api.OK {
		t.Errorf("the first one is %q, %d", v, errno)
	}
	for _, none := range [][]api.Field{nil, {}, pairs("a", "b")} {
		if v, errno := mime.Param(none, "charset"); v != "" || errno != api.ErrNone {
			t.Errorf("of %q there is %q, %d", none, v, errno)
		}
	}
}

// 11.1
func TestParts(t *testing.T) {
	for _, c := range trees {
		if l := mime.Parts(c.text); !slices.Equal(l, c.parts) {
			t.Errorf("Parts(%q) = %#v, not %#v", c.text, l, c.parts)
		}
	}
}

// 11.1
func TestPartsOfABody(t *testing.T) {
	for _, c := range cut {
		want := []api.Part{mixed(0)}
		for _, body := range c.parts {
			want = append(want, plain(1, body))
		}
		if len(c.parts) == 0 {
			want[0].Body = c.body
		}
		if l := mime.Parts(multi + c.body); !slices.Equal(l, want) {
			t.Errorf("the parts of %q are %#v, not %#v", c.body, l, want)
		}
	}
}

// 11.1
func TestPartsAreAsTheyAreWorded(t *testing.T) {
	r := rand.New(rand.NewSource(2))
	deepest, parts := 0, 0
	for range 60000 {
		s := randomMail(r, 24)
		want := slowParts(s, 0)
		l := mime.Parts(s)
		if !slices.Equal(l, want) {
			t.Fatalf("Parts(%q) = %#v, not %#v", s, l, want)
		}
		deepest = max(deepest, slices.Max(levels(l)))
		parts += len(l)
	}
	if deepest < 3 || parts < 100000 {
		t.Errorf("there were %d parts, the deepest of level %d", parts, deepest)
	}
}

// 11.1, 11.4: the last level has a body, whatever its type is.
func TestPartsUpToTheLastLevel(t *testing.T) {
	message := "Content-Type: message/rfc822\n\n"
	for depth := range 2*api.MaxLevel + 1 {
		var nested strings.Builder
		for i := range depth {
			b := "b" + strconv.Itoa(i)
			nested.WriteString("Content-Type: multipart/x; boundary=" + b + "\n\n--" + b + "\n")
		}
		for i, c := range []struct{ text, kind, left string }{
			{strings.Repeat(message, depth) + "A: b\n\nend", "message/rfc822", ""},
			{nested.String() + "A: b\n\nend", "multipart/x", ""},
		} {
			l := mime.Parts(c.text)
			last := min(depth, api.MaxLevel)
			if len(l) != last+1 {
				t.Fatalf("of %d levels there are %d parts", depth, len(l))
			}
			want := plain(last, "end")
			if depth > api.MaxLevel {
				_, at := head.Parse(message)
				if i == 1 {
					at = len("Content-Type: multipart/x; boundary=b8\n\n")
				}
				from := len(c.text) - len("A: b\n\nend")
				for range depth - api.MaxLevel {
					from = strings.LastIndex(c.text[:from], "Content-Type")
				}
				want = typed(last, c.kind, c.text[from+at:])
			}
			if l[last] != want {
				t.Errorf("of %d levels the last part is %#v, not %#v", depth, l[last], want)
			}
			for level, p := range l[:last] {
				if p != typed(level, c.kind, "") {
					t.Errorf("of %d levels a part is %#v", depth, p)
				}
			}
		}
	}
}

// 11.1
func TestMorePartsAreLeftOut(t *testing.T) {
	for _, n := range []int{api.MaxParts - 2, api.MaxParts - 1, api.MaxParts, api.MaxParts + 1, 3 * api.MaxParts} {
		var b strings.Builder
		for i := range n {
			b.WriteString("--b\n\n" + strconv.Itoa(i) + "\n")
		}
		for _, end := range []string{"", "--b--\n"} {
			l := mime.Parts(multi + b.String() + end)
			if len(l) != min(n+1, api.MaxParts) || l[0] != mixed(0) {
				t.Fatalf("of %d parts there are %d, the first %#v", n, len(l), l[0])
			}
			for i, p := range l[1:] {
				want := plain(1, strconv.Itoa(i))
				if i == n-1 && end == "" {
					want.Body += "\n"
				}
				if p != want {
					t.Errorf("of %d parts one is %#v, not %#v", n, p, want)
				}
			}
		}
	}
}

// 11.1: parts are left out wherever they stand; a part whose own ones are left out has them still.
func TestPartsWithinPartsAreLeftOut(t *testing.T) {
	inner := "Content-Type: multipart/mixed; boundary=c\n\n" + strings.Repeat("--c\n\nin\n", 4) + "--c--\n"
	l := mime.Parts(multi + strings.Repeat("--b\n"+inner, 100) + "--b--\n")
	if len(l) != api.MaxParts {
		t.Fatalf("there are %d parts", len(l))
	}
	for i, p := range l[1:] {
		want := plain(2, "in")
		if i%5 == 0 {
			want = mixed(1)
		}
		if p != want {
			t.Errorf("part %d is %#v", i+1, p)
		}
	}
	for _, ahead := range []int{api.MaxParts - 3, api.MaxParts - 2, api.MaxParts - 1} {
		l = mime.Parts(multi + strings.Repeat("--b\n\nout\n", ahead) + "--b\n" + inner + "--b\n\nlast\n--b--\n")
		want := []api.Part{mixed(0)}
		want = append(want, slices.Repeat([]api.Part{plain(1, "out")}, ahead)...)
		want = append(want, mixed(1), plain(2, "in"), plain(2, "in"))
		if !slices.Equal(l, want[:api.MaxParts]) {
			t.Errorf("behind %d parts there are %d, the last %#v", ahead, len(l), l[len(l)-1])
		}
	}
}

// 11.1: what is left out of a header tells nothing.
func TestAFieldThatIsLeftOutTellsNoType(t *testing.T) {
	many := strings.Repeat("A: b\n", api.MaxFields-1)
	if l := mime.Parts(many + multi + "--b\n\none"); !slices.Equal(l, []api.Part{mixed(0), plain(1, "one")}) {
		t.Errorf("the parts are %#v", l)
	}
	if l := mime.Parts(many + "A: b\n" + multi + "--b\n\none"); !slices.Equal(l, []api.Part{plain(0, "--b\n\none")}) {
		t.Errorf("the parts are %#v", l)
	}
}

// 11.2
func TestBytes(t *testing.T) {
	for _, c := range codings {
		for _, p := range []api.Part{{Coding: c.coding, Body: c.body}, {Level: -1, Type: "x", Charset: "y", Coding: c.coding, Body: c.body}} {
			if s, counted := mime.Bytes(p); s != c.bytes || counted != c.counted {
				t.Errorf("Bytes(%#v) = %q, %d, not %q, %d", p, s, counted, c.bytes, c.counted)
			}
		}
	}
}

// 11.2
func TestCodingsOfMailsAreAlikeInGreatAndSmall(t *testing.T) {
	for _, c := range []struct{ coding, body, bytes string }{
		{"base64", "w6k=", "\xc3\xa9"},
		{"BASE64", "w6k=", "\xc3\xa9"},
		{"  bAsE64\t", "w6k=", "\xc3\xa9"},
		{"quoted-printable", "=C3=A9", "\xc3\xa9"},
		{"QUOTED-printable", "=C3=A9", "\xc3\xa9"},
		{"8BIT", "=C3", "=C3"},
		{"base65", "w6k=", "w6k="},
		{"\"base64\"", "w6k=", "w6k="},
		{"base64; x", "w6k=", "w6k="},
		{"", "w6k=", "w6k="},
	} {
		l := mime.Parts("Content-Transfer-Encoding:" + c.coding + "\n\n" + c.body)
		if s, counted := mime.Bytes(l[0]); s != c.bytes || counted != 0 {
			t.Errorf("in %q %q is %q, %d", c.coding, c.body, s, counted)
		}
	}
}

// 11.2
func TestLetters(t *testing.T) {
	for _, c := range charsets {
		for _, kind := range []string{"text/plain", "text/html", "text/"} {
			p := api.Part{Type: kind, Charset: c.charset, Coding: "7bit", Body: c.bytes}
			if l, is := mime.Letters(p); !slices.Equal(l, c.letters) || is != c.is {
				t.Errorf("Letters(%#v) = %x, %v, not %x, %v", p, l, is, c.letters, c.is)
			}
		}
	}
	for _, kind := range []string{"", "text", "image/png", "multipart/mixed", "message/rfc822", "texts/plain", "x/text/", "Text/plain", "TEXT/", " text/plain"} {
		if l, is := mime.Letters(api.Part{Type: kind, Charset: "utf-8", Coding: "7bit", Body: "abc"}); len(l) != 0 || is {
			t.Errorf("of type %q there are %x, %v", kind, l, is)
		}
	}
}

// 11.2: a body is decoded ahead of its letters being told.
func TestLettersOfCodings(t *testing.T) {
	for _, c := range []struct {
		charset, coding, body string
		letters               []int32
		is                    bool
	}{
		{"utf-8", "base64", "w6k=", []int32{0xe9}, true},
		{"utf-8", "base64", "!!w6k=!!", []int32{0xe9}, true},
		{"utf-8", "quoted-printable", "=C3=A9=", []int32{0xe9}, true},
		{"latin1", "quoted-printable", "=C3=A9", []int32{0xc3, 0xa9}, true},
		{"windows-1252", "base64", "gA==", []int32{0x20ac}, true},
		{"none", "base64", "w6lh", []int32{bad, bad, 'a'}, false},
		{"utf-8", "none", "w6k=", []int32{'w', '6', 'k', '='}, true},
	} {
		s := "Content-Type: text/plain; charset=" + c.charset + "\nContent-Transfer-Encoding: " + c.coding + "\n\n" + c.body
		if l, is := mime.Letters(mime.Parts(s)[0]); !slices.Equal(l, c.letters) || is != c.is {
			t.Errorf("the letters of %q are %x, %v", s, l, is)
		}
	}
	if l, is := mime.Letters(mime.Parts("A: b\n\na\xe9")[0]); !slices.Equal(l, []int32{'a', bad}) || !is {
		t.Errorf("without a charset the letters are %x, %v", l, is)
	}
}

// 11.3
func TestAnswersAreNewMemory(t *testing.T) {
	text := strings.Clone("Content-Type: multipart/mixed; boundary=bbb; charset=utf-8\nContent-Transfer-Encoding: binary\n\n--bbb\n\none\n--bbb\nContent-Type: text/html\n\ntwo\n--bbb--\n")
	kept := strings.Clone(text)
	one, two := mime.Parts(text), mime.Parts(text)
	var all []string
	for _, p := range slices.Concat(one, two) {
		all = append(all, p.Type, p.Charset, p.Coding, p.Body)
	}
	value := strings.Clone("text/plain; charset=abc; name=\"def\"")
	for _, v := range []string{value, value, "none", "none"} {
		kind, params := mime.Type(v)
		all = append(all, kind)
		for _, f := range params {
			all = append(all, f.Name, f.Value)
		}
	}
	_, params := mime.Type(value)
	all = append(all, params[0].Value, value, text)
	for range 2 {
		v, _ := mime.Param(params, "charset")
		all = append(all, v)
	}
	for _, coding := range []string{"7bit", "base64", "quoted-printable"} {
		p := api.Part{Coding: coding, Body: strings.Clone("abcdefgh")}
		x, _ := mime.Bytes(p)
		y, _ := mime.Bytes(p)
		all = append(all, p.Body, x, y)
	}
	for i, a := range all {
		for _, b := range all[:i] {
			if shares(a, b) {
				t.Errorf("%q shares its memory with %q", a, b)
			}
		}
	}
	if one[0].Type = "x"; two[0].Type == "x" || text != kept {
		t.Error("parts share their memory, or the mail is changed")
	}
	x, _ := mime.Letters(plain(0, "abc"))
	y, _ := mime.Letters(plain(0, "abc"))
	if x[0] = 77; y[0] != 'a' {
		t.Error("letters share their memory")
	}
}

// 11.4, 11.5
func TestLevelsAndBodies(t *testing.T) {
	r := rand.New(rand.NewSource(3))
	for i := range 30000 {
		s := randomMail(r, 40)
		if i%3 == 0 {
			s = strings.Repeat("Content-Type: message/rfc822\n\n", r.Intn(api.MaxLevel+2)) + s
		}
		l := mime.Parts(s)
		if len(l) == 0 || len(l) > api.MaxParts || l[0].Level != 0 {
			t.Fatalf("Parts(%q) = %#v", s, l)
		}
		for i, p := range l {
			if i > 0 && (p.Level < 1 || p.Level > l[i-1].Level+1) || p.Level > api.MaxLevel {
				t.Fatalf("the levels of %q are %d", s, levels(l))
			}
			if !strings.Contains(s, p.Body) {
				t.Fatalf("the body %q is no piece of %q", p.Body, s)
			}
			if i+1 < len(l) && l[i+1].Level > p.Level && p.Body != "" {
				t.Fatalf("a part of %q has parts, and the body %q", s, p.Body)
			}
		}
	}
}

// 11.4, the chapter's example
func TestTwoPartsHaveLevels(t *testing.T) {
	l := mime.Parts(multi + "--b\n\none\n--b\n\ntwo\n--b--\n")
	if !slices.Equal(levels(l), []int{0, 1, 1}) {
		t.Errorf("the levels are %d", levels(l))
	}
}

// P1 to P4
func TestAnythingIsAnswered(t *testing.T) {
	ahead := runtime.NumGoroutine()
	r := rand.New(rand.NewSource(4))
	for range 20000 {
		b := make([]byte, r.Intn(40))
		r.Read(b)
		s := string(b)
		for _, text := range []string{s, multi + s, "Content-Type: " + s, "Content-Type: message/rfc822\n\n" + s, "Content-Type: multipart/x; boundary=\"" + s} {
			l := mime.Parts(text)
			if len(l) == 0 || !slices.Equal(l, mime.Parts(text)) {
				t.Fatalf("Parts(%q) = %#v", text, l)
			}
		}
		kind, l := mime.Type(s)
		if other, m := mime.Type(s); kind != other || !slices.Equal(l, m) || kind == "" {
			t.Fatalf("Type(%q) = %q, %q", s, kind, l)
		}
		coding := []string{"base64", "quoted-printable", "7bit", s}[r.Intn(4)]
		charset := []string{"utf-8", "latin1", "none", s}[r.Intn(4)]
		p := api.Part{Level: int(r.Uint64()), Type: "text/" + s, Charset: charset, Coding: coding, Body: s}
		bytes, counted := mime.Bytes(p)
		if len(bytes) > len(s) || counted < 0 || counted > len(s) {
			t.Fatalf("Bytes(%#v) = %q, %d", p, bytes, counted)
		}
		if letters, _ := mime.Letters(p); len(letters) > len(bytes) {
			t.Fatalf("Letters(%#v) = %x", p, letters)
		}
	}
	if behind := runtime.NumGoroutine(); behind > ahead { // fewer, if that of an earlier test was just ending
		t.Errorf("%d goroutines ahead, %d behind", ahead, behind)
	}
}

// P1: what is long is gone through once a level.
func TestLongMailsAreAnswered(t *testing.T) {
	const long = 1 << 20
	for _, c := range []struct {
		text  string
		parts int
	}{
		{strings.Repeat("--b\n", long), 1},
		{multi + strings.Repeat("--b\n", long), api.MaxParts},
		{multi + strings.Repeat("--b", long), 1},
		{multi + strings.Repeat("-", 4*long), 1},
		{multi + "--b" + strings.Repeat(" ", 4*long), 2},
		{multi + strings.Repeat("--b"+strings.Repeat(" ", 100)+"x\n", long/32), 1},
		{strings.Repeat("Content-Type: message/rfc822\n\n", long/8), api.MaxLevel + 1},
		{strings.Repeat(multi+"--b\n", long/8), api.MaxParts},
		{"Content-Type: a/b" + strings.Repeat(";c=d", long), 1},
		{"Content-Type: a/b" + strings.Repeat(";c=\"\\\"\"", long/2), 1},
		{"Content-Type: a/b;c=\"" + strings.Repeat("\\\"", long), 1},
		{"Content-Type: multipart/x;boundary=\"" + strings.Repeat("b", long) + "\"\n\n" + strings.Repeat("--"+strings.Repeat("b", long)+"\n", 3), 4},
	} {
		if l := mime.Parts(c.text); len(l) != c.parts {
			t.Errorf("of %.40q and so on there are %d parts, not %d", c.text, len(l), c.parts)
		}
	}
	if _, l := mime.Type("a/b" + strings.Repeat("; c=\"d\"", long/4)); len(l) != long/4 {
		t.Errorf("there are %d parameters", len(l))
	}
}
