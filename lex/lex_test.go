package lex_test

import (
	"fmt"
	"math/rand"
	"regexp"
	"runtime"
	"slices"
	"strconv"
	"strings"
	"testing"
	"unsafe"

	"missive/api"
	"missive/lex"
)

// The signatures that the chapter lists.
var (
	_ func(string) (string, string, api.Errno) = lex.Next
	_ func(string) ([]api.Token, api.Errno)    = lex.Tokens
	_ func(...api.Token) (string, api.Errno)   = lex.Write
	_ func(string) (string, api.Errno)         = lex.Quote
	_ func(string) (int, bool)                 = lex.Announced
)

var (
	open = api.Token{Kind: api.TokenOpen, Text: "("}
	shut = api.Token{Kind: api.TokenClose, Text: ")"}
)

// What the chapter words, as patterns: a literal's announcement, an atom, a quoted text, and what stands ahead of a literal's bytes.
var (
	announces = regexp.MustCompile(`\{(0|[1-9][0-9]{0,8})\+?\}$`)
	atoms     = regexp.MustCompile(`^[!#-'*-z|-~]+`)
	quotes    = regexp.MustCompile(`(?s)^"(?:[^"\\\r\n]|\\["\\])*"`)
	literals  = regexp.MustCompile(`^\{(0|[1-9][0-9]{0,8})\+?\}\r?\n`)
)

func atom(s string) api.Token { return api.Token{Kind: api.TokenAtom, Text: s} }
func text(s string) api.Token { return api.Token{Kind: api.TokenString, Text: s} }

// line tells a line of so many bytes that ends with s.
func line(size int, s string) string { return strings.Repeat("x", size-len(s)) + s }

// 28.1
func TestAnnounced(t *testing.T) {
	for s, many := range map[string]int{
		"x {12+}": 12, "{0}": 0, "{0+}": 0, "{1}": 1, "x{7}": 7, "a \"b {9}": 9, "{{5}": 5, "{5}{6}": 6, "}{5}": 5, "\x00\xff{10}": 10,
		"{123456789}": 123456789, "{999999999}": 999999999, "{999999999+}": 999999999, "{65537}": 65537, "\r{3}": 3,
	} {
		if got, is := lex.Announced(s); got != many || !is {
			t.Errorf("Announced(%q) = %d, %t", s, got, is)
		}
	}
	for _, s := range []string{
		"", "{", "}", "{}", "{+}", "{5", "5}", "{5} ", "{5}x", "{ 5}", "{5 }", "{+5}", "{5++}", "{-5}", "{05}", "{00}", "{00+}", "{1234567890}", "{1000000000+}", "{0000000005}",
		"{5}\r", "{5}\n", "{5}\r\n", "{5}}", "{5{}", "(5)", "{5a}", "{0x5}", "{1_0}", "{\u0665}", "{5.}", "x", "{99999999999999999999}", "{5+ }", "{5+}+",
	} {
		if got, is := lex.Announced(s); got != 0 || is {
			t.Errorf("Announced(%q) = %d, %t", s, got, is)
		}
	}
}

// 28.1
func TestNext(t *testing.T) {
	for _, c := range []struct{ s, text, rest string }{
		{"a1 LOGIN {2}\r\nab \"c\"\r\nx", "a1 LOGIN {2}\r\nab \"c\"", "x"},
		{"\n", "", ""},
		{"\r\n", "", ""},
		{"\nx", "", "x"},
		{"\r\r\n", "\r", ""},
		{"a NOOP\n", "a NOOP", ""},
		{"a NOOP\r\n", "a NOOP", ""},
		{"a NOOP\r\nb NOOP\r\n", "a NOOP", "b NOOP\r\n"},
		{"a\rb\nc", "a\rb", "c"},
		{"a {0}\r\n\r\nx", "a {0}\r\n", "x"},
		{"a {0}\n\nx", "a {0}\n", "x"},
		{"a {0+}\n b\nx", "a {0+}\n b", "x"},
		{"a {3+}\r\nb\r\n c\r\nx", "a {3+}\r\nb\r\n c", "x"},
		{"a {3}\nb\r\n\nx", "a {3}\nb\r\n", "x"},
		{"a {1}\r\n\r\nx", "a {1}\r\n\r", "x"}, // the carriage return is the literal's
		{"a {1}\r\n\n\r\nx", "a {1}\r\n\n", "x"},
		{"a {3}\r\n{9}\r\nx", "a {3}\r\n{9}", "x"}, // the literal's bytes announce nothing
		{"a {2}\r\n{9}\r\nx", "a {2}\r\n{9}", "x"}, // nor do they with the line behind them
		{"a {2}\r\n{9 {1}\r\nb\r\nx", "a {2}\r\n{9 {1}\r\nb", "x"},
		{"a {1}\r\nb{2}\r\ncd{3}\r\nefg h\nx", "a {1}\r\nb{2}\r\ncd{3}\r\nefg h", "x"},
		{"a {05}\r\nb\r\n", "a {05}", "b\r\n"},
		{"a {1234567890}\r\nb\r\n", "a {1234567890}", "b\r\n"},
		{"a {}\r\nb\r\n", "a {}", "b\r\n"},
		{"a {5} \r\nb\r\n", "a {5} ", "b\r\n"},
		{"a {5}\r\r\nb\r\n", "a {5}\r", "b\r\n"},
		{"\x00\xff\n\xfe", "\x00\xff", "\xfe"},
		{"a {2}\n\xff\x00\nb", "a {2}\n\xff\x00", "b"},
	} {
		if text, rest, errno := lex.Next(c.s); text != c.text || rest != c.rest || errno != api.OK {
			t.Errorf("Next(%q) = %q, %q, %d", c.s, text, rest, errno)
		}
	}
}

// 28.1, P2
func TestNextShort(t *testing.T) {
	for _, s := range []string{
		"", "a", "\r", "a NOOP", "a NOOP\r", "a {5}", "a {5}\r", "a {5}\r\n", "a {5}\r\nab", "a {5}\r\nabcde", "a {5}\r\nabcd\n", "a {5}\r\nabcde\r",
		"a {5}\r\n\n\n\n\n\n", "a {0}\r\n", "a {0}\n", "a {2}\r\nab{1}\r\n", "a {2}\r\nab{1}\r\nc", "a {2}\r\n\r\n", "a {65536}\r\n", "a {65536}\r\n" + line(65536, "") + "x",
	} {
		if text, rest, errno := lex.Next(s); text != "" || rest != "" || errno != api.ErrShort {
			t.Errorf("Next(%.40q) = %q, %q, %d", s, text, rest, errno)
		}
	}
}

// 28.1: lines of just MaxLine bytes together, and of one byte more.
func TestNextLines(t *testing.T) {
	const most = api.MaxLine
	for _, c := range []struct {
		name, s string
		size    int // of the text, if the command is whole
		errno   api.Errno
	}{
		{"a line", line(most, "") + "\r\nz", most, api.OK},
		{"a line without a carriage return", line(most, "") + "\nz", most, api.OK},
		{"a line that has no end yet", line(most, ""), 0, api.ErrShort},
		{"a line more", line(most+1, "") + "\r\nz", 0, api.ErrLong},
		{"a line more without a carriage return", line(most+1, "") + "\nz", 0, api.ErrLong},
		{"a line more that has no end yet", line(most+1, ""), 0, api.ErrLong},
		{"a line with a carriage return as its last byte", line(most, "\r") + "\r\nz", most, api.OK},
		{"a carriage return more, that is a byte of the line", line(most, "") + "\r\r\nz", 0, api.ErrLong},
		{"a carriage return more, and no line feed yet", line(most, "") + "\r", 0, api.ErrLong},
		{"far more, that has no end yet", line(1<<20, ""), 0, api.ErrLong},
		{"two lines", line(most-7, "{3}") + "\r\nabc" + line(7, "") + "\r\nz", most + 2 + 3, api.OK},
		{"two lines, and a byte more", line(most-7, "{3}") + "\r\nabc" + line(8, "") + "\r\nz", 0, api.ErrLong},
		{"two lines, the last one without an end yet", line(most-7, "{3}") + "\r\nabc" + line(7, ""), 0, api.ErrShort},
		{"two lines, the last one without an end yet, and a byte more", line(most-7, "{3}") + "\r\nabc" + line(8, ""), 0, api.ErrLong},
		{"a line that announces", line(most, "{3}") + "\r\nabc\r\nz", most + 2 + 3, api.OK},
		{"a line that announces, and no bytes yet", line(most, "{3}") + "\r\n", 0, api.ErrShort},
		{"a line that announces, and a byte behind the literal", line(most, "{3}") + "\r\nabcd", 0, api.ErrLong},
		{"a line that announces, a byte more", line(most+1, "{3}") + "\r\nabc\r\nz", 0, api.ErrLong},
		{"a line that announces, a byte more, and no bytes yet", line(most+1, "{3}") + "\r\n", 0, api.ErrLong},
		{"three lines", line(most-20, "{0}") + "\n" + line(10, "{9}") + "\n123456789" + line(10, "") + "\nz", most + 1 + 1 + 9, api.OK},
		{"three lines, and a byte more", line(most-20, "{0}") + "\n" + line(10, "{9}") + "\n123456789" + line(11, "") + "\nz", 0, api.ErrLong},
		{"a literal's line feeds", line(most-7, "{9000}") + "\r\n" + strings.Repeat("\n", 9000) + line(7, "") + "\r\nz", most + 2 + 9000, api.OK},
	} {
		text, rest, errno := lex.Next(c.s)
		if errno != c.errno || len(text) != c.size || !strings.HasPrefix(c.s, text) || errno == api.OK && rest != "z" || errno != api.OK && rest != "" {
			t.Errorf("Next of %s: %d bytes, %q, %d", c.name, len(text), rest, errno)
		}
	}
}

// 28.1: a literal of just MaxLiteral bytes, and of one byte more; MaxLiterals, and one more.
func TestNextLiterals(t *testing.T) {
	whole := "a {65536}\r\n" + line(api.MaxLiteral, "")
	if text, rest, errno := lex.Next(whole + "\r\nz"); text != whole || rest != "z" || errno != api.OK {
		t.Errorf("Next of MaxLiteral bytes: %d, %q, %d", len(text), rest, errno)
	}
	many := "a" + strings.Repeat("{1}\r\nb", api.MaxLiterals)
	if text, rest, errno := lex.Next(many + "\r\nz"); text != many || rest != "z" || errno != api.OK {
		t.Errorf("Next of MaxLiterals: %d, %q, %d", len(text), rest, errno)
	}
	if text, rest, errno := lex.Next(many); text != "" || rest != "" || errno != api.ErrShort {
		t.Errorf("Next of MaxLiterals without an end: %q, %q, %d", text, rest, errno)
	}
	great := "a" + strings.Repeat("{65536}\n"+line(api.MaxLiteral, ""), api.MaxLiterals)
	if text, rest, errno := lex.Next(great + "\nz"); text != great || rest != "z" || errno != api.OK {
		t.Errorf("Next of MaxLiterals of MaxLiteral bytes: %d, %q, %d", len(text), rest, errno)
	}
	for name, s := range map[string]string{
		"a byte more, all there":            "a {65537}\r\n" + line(api.MaxLiteral+1, "") + "\r\nz",
		"a byte more, none there":           "a {65537}\r\n",
		"a byte more, with a plus sign":     "a {65537+}\n",
		"the most that may be announced":    "a {999999999}\r\nab",
		"a byte more, in the second one":    "a {1}\r\nb{65537}\r\n",
		"one more of them, all there":       many + "{1}\r\nb\r\nz",
		"one more of them, without bytes":   many + "{1}\r\n",
		"one more of them, of no bytes":     "a" + strings.Repeat("{0}\n", api.MaxLiterals+1) + "\n",
		"one more of them, and no more yet": "a" + strings.Repeat("{0}\n", api.MaxLiterals+1),
	} {
		if text, rest, errno := lex.Next(s); text != "" || rest != "" || errno != api.ErrLong {
			t.Errorf("Next of %s: %.40q, %.40q, %d", name, text, rest, errno)
		}
	}
	if text, rest, errno := lex.Next(many + "{1}"); text != "" || rest != "" || errno != api.ErrShort { // it is announced by its line's end
		t.Errorf("Next of one more that has no end yet: %q, %q, %d", text, rest, errno)
	}
	if text, rest, errno := lex.Next("a {70000}"); text != "" || rest != "" || errno != api.ErrShort {
		t.Errorf("Next of a great one that has no end yet: %q, %q, %d", text, rest, errno)
	}
}

// 28.2
func TestTokens(t *testing.T) {
	for _, c := range []struct {
		s string
		l []api.Token
	}{
		{"", nil},
		{"  ", nil},
		{"a1 LOGIN {2}\r\nab \"c\"", []api.Token{atom("a1"), atom("LOGIN"), text("ab"), text("c")}},
		{"a", []api.Token{atom("a")}},
		{" a  b ", []api.Token{atom("a"), atom("b")}},
		{"! ~ }", []api.Token{atom("!"), atom("~"), atom("}")}},
		{"!#$%&'*+,-./09:;<=>?@AZ[\\]^_`az|}~", []api.Token{atom("!#$%&'*+,-./09:;<=>?@AZ[\\]^_`az|}~")}},
		{"BODY[HEADER] \\Seen 1:*", []api.Token{atom("BODY[HEADER]"), atom("\\Seen"), atom("1:*")}},
		{"(", []api.Token{open}},
		{")", []api.Token{shut}},
		{")(", []api.Token{shut, open}},
		{"()", []api.Token{open, shut}},
		{"(())", []api.Token{open, open, shut, shut}},
		{"( ( ) )", []api.Token{open, open, shut, shut}},
		{" ( a  b ) ", []api.Token{open, atom("a"), atom("b"), shut}},
		{"(a b)", []api.Token{open, atom("a"), atom("b"), shut}},
		{"a (b)(c) d", []api.Token{atom("a"), open, atom("b"), shut, open, atom("c"), shut, atom("d")}},
		{"(\"a\")", []api.Token{open, text("a"), shut}},
		{"({1}\na)", []api.Token{open, text("a"), shut}},
		{"({1+}\r\n))", []api.Token{open, text(")"), shut}},
		{"\"\"", []api.Token{text("")}},
		{"\"a\\\"\\\\b\"", []api.Token{text("a\"\\b")}},
		{"\"(){} a\"", []api.Token{text("(){} a")}},
		{"\"\x00\t\x01\x7f\x80\xff\"", []api.Token{text("\x00\t\x01\x7f\x80\xff")}},
		{"{0}\r\n", []api.Token{text("")}},
		{"{0}\n {0+}\n", []api.Token{text(""), text("")}},
		{"{3}\r\n\r\n\"", []api.Token{text("\r\n\"")}},
		{"{1}\r\n\r", []api.Token{text("\r")}},
		{"{4}\n{1}\n x", []api.Token{text("{1}\n"), atom("x")}},
		{"{2}\n\x00\xff a", []api.Token{text("\x00\xff"), atom("a")}},
		{"{10+}\r\n0123456789 a", []api.Token{text("0123456789"), atom("a")}},
		{"{70000}\n" + line(70000, ""), []api.Token{text(line(70000, ""))}},        // how long a literal may be is Next's
		{line(2*api.MaxLine, ""), []api.Token{atom(line(2*api.MaxLine, ""))}},      // and so is how long lines may be
		{strings.Repeat("{1}\na ", 20), slices.Repeat([]api.Token{text("a")}, 20)}, // and how many literals there may be
	} {
		if l, errno := lex.Tokens(c.s); !slices.Equal(l, c.l) || errno != api.OK {
			t.Errorf("Tokens(%.60q) = %.200q, %d", c.s, fmt.Sprint(l), errno)
		}
	}
}

// 28.2, P2
func TestTokensRefuses(t *testing.T) {
	for _, s := range []string{
		"a(b", "a(", ")b", "(a)b", "a()", "a\"b\"", "\"a\"b", "\"a\"\"b\"", "\"a\"(", ")\"a\"", "a{1}\nb", "\"a\"{1}\nb", "){1}\nb", "{1}\nab", "{1}\na\"b\"", "{1}\na(", "{1}\na{1}\nb",
		"a\tb", "\ta", "a\t", "a\r", "a\n", "\n", "\r\n", "a\nb", "a \r\n", "\x00", "a\x00", "\x7f", "a\x7f", "\x80", "a\xff", "\u00e9", "\x1f", "a b\x01",
		"\"", "\"a", "\"a\\", "\"a\\\"", "\"\\a\"", "\"\\", "\"a\r\"", "\"a\n\"", "\"\\\r\"", "\"\\\n\"", "a \"", "\"\"\"",
		"{", "}{", "{1", "{1}", "{1} a", "{1}a", "{1}\r", "{1}\ra", "{1}\r\n", "{1}\r\r\na", "{2}\r\na", "{0}", "{0} \n", "{}\n", "{+}\na", "{+1}\na", "{1++}\na", "{01}\na", "{00}\n", "{ 1}\na", "{-1}\n",
		"{1234567890}\na", "{0000000001}\na", "{x}\na", "{1x}\na", "{999999999}\na", "a {1}", "a {3}\nab", "{{1}\na", "{1}{1}\na",
	} {
		if l, errno := lex.Tokens(s); len(l) != 0 || errno != api.ErrCode {
			t.Errorf("Tokens(%q) = %v, %d", s, l, errno)
		}
	}
}

// 28.2: MaxTokens, and one more, where the text is right, and where it is not.
func TestTokensMany(t *testing.T) {
	for name, c := range map[string]struct {
		s     string
		many  int
		errno api.Errno
	}{
		"just as many":                     {strings.Repeat("a ", api.MaxTokens), api.MaxTokens, api.OK},
		"just as many brackets":            {strings.Repeat("(", api.MaxTokens), api.MaxTokens, api.OK},
		"just as many, and a bad one":      {strings.Repeat("a ", api.MaxTokens) + "\"", 0, api.ErrCode},
		"one more":                         {strings.Repeat("a ", api.MaxTokens+1), 0, api.ErrLong},
		"one bracket more":                 {strings.Repeat("(", api.MaxTokens) + ")", 0, api.ErrLong},
		"one string more":                  {strings.Repeat("\"\" ", api.MaxTokens) + "\"\"", 0, api.ErrLong},
		"one literal more":                 {strings.Repeat("{0}\n ", api.MaxTokens+1), 0, api.ErrLong},
		"far more":                         {strings.Repeat("()", 1<<18), 0, api.ErrLong},
		"one more, and a bad one":          {strings.Repeat("a ", api.MaxTokens+1) + "\"", 0, api.ErrCode},
		"one more that touches":            {strings.Repeat("a ", api.MaxTokens) + "a(", 0, api.ErrCode},
		"one more, and a bad end":          {strings.Repeat("a ", api.MaxTokens+1) + "\r", 0, api.ErrCode},
		"far more, and a bad one":          {strings.Repeat("a ", 2*api.MaxTokens) + "a\xff", 0, api.ErrCode},
		"one more, and a literal too late": {strings.Repeat("a ", api.MaxTokens+1) + "{2}\na", 0, api.ErrCode},
	} {
		if l, errno := lex.Tokens(c.s); len(l) != c.many || errno != c.errno {
			t.Errorf("Tokens of %s: %d tokens, %d", name, len(l), errno)
		}
	}
}

// 28.2
func TestQuote(t *testing.T) {
	for s, q := range map[string]string{
		"": `""`, "a": `"a"`, `a"b`: `"a\"b"`, `\`: `"\\"`, `\"`: `"\\\""`, "a\tb": "\"a\tb\"", " ~": `" ~"`, "(){}": `"(){}"`, "{5}": `"{5}"`, `""`: `"\"\""`,
	} {
		if got, errno := lex.Quote(s); got != q || errno != api.OK {
			t.Errorf("Quote(%q) = %q, %d", s, got, errno)
		}
	}
	for c := range 256 {
		s := "a" + string([]byte{byte(c)}) + "b"
		want := "\"" + s + "\""
		errno := api.OK
		switch {
		case c == '"' || c == '\\':
			want = "\"a\\" + s[1:] + "\""
		case c < ' ' && c != '\t' || c > 126:
			want, errno = "", api.ErrCode
		}
		if got, is := lex.Quote(s); got != want || is != errno {
			t.Errorf("Quote(%q) = %q, %d", s, got, is)
		}
	}
}

// 28.2
func TestWrite(t *testing.T) {
	for _, c := range []struct {
		l []api.Token
		s string
	}{
		{nil, ""},
		{[]api.Token{atom("a")}, "a"},
		{[]api.Token{atom("a1"), atom("LOGIN"), text("ab"), text("c")}, `a1 LOGIN "ab" "c"`},
		{[]api.Token{atom("a"), open, atom("b"), atom("c"), shut, atom("d")}, "a (b c) d"},
		{[]api.Token{open, open, shut, open, shut, shut}, "(() ())"},
		{[]api.Token{shut, open}, ") ("},
		{[]api.Token{shut, shut, atom("a"), shut}, ")) a)"},
		{[]api.Token{atom("a"), open}, "a ("},
		{[]api.Token{open, text(""), text("b"), shut, text("c")}, `("" "b") "c"`},
		{[]api.Token{text(`a"b\`)}, `"a\"b\\"`},
		{[]api.Token{text("a\tb ~")}, "\"a\tb ~\""},
		{[]api.Token{text("a\r\nb"), atom("c")}, "{4}\r\na\r\nb c"},
		{[]api.Token{text("\n")}, "{1}\r\n\n"},
		{[]api.Token{text("\r")}, "{1}\r\n\r"},
		{[]api.Token{text("\x7f")}, "{1}\r\n\x7f"},
		{[]api.Token{text("\x1f")}, "{1}\r\n\x1f"},
		{[]api.Token{text("\x00\"")}, "{2}\r\n\x00\""},
		{[]api.Token{open, text("\u00e9"), shut, text("\xff")}, "({2}\r\n\u00e9) {1}\r\n\xff"},
		{[]api.Token{text(line(70000, "\n"))}, "{70000}\r\n" + line(70000, "\n")},
		{slices.Repeat([]api.Token{open}, api.MaxTokens), strings.Repeat("(", api.MaxTokens)},
	} {
		if s, errno := lex.Write(c.l...); s != c.s || errno != api.OK {
			t.Errorf("Write(%.200q) = %.60q, %d", fmt.Sprint(c.l), s, errno)
		}
	}
}

// 28.2, P2
func TestWriteRefuses(t *testing.T) {
	for name, x := range map[string]api.Token{
		"nothing":                      {},
		"no kind, with a text":         {Text: "a"},
		"a kind that there is not":     {Kind: api.TokenCount, Text: "a"},
		"the greatest kind":            {Kind: 255, Text: "a"},
		"an atom of nothing":           atom(""),
		"an atom with a space":         atom("a b"),
		"an atom with a space ahead":   atom(" a"),
		"an atom with a space behind":  atom("a "),
		"an atom with a bracket":       atom("a("),
		"a bracket as an atom":         atom(")"),
		"an atom with a quote":         atom("a\""),
		"an atom with a literal":       atom("{1}"),
		"an atom with a low byte":      atom("a\x1f"),
		"an atom with a high byte":     atom("a\x7f"),
		"an atom with a great byte":    atom("\xff"),
		"an atom with a line's end":    atom("a\n"),
		"an open bracket of nothing":   {Kind: api.TokenOpen},
		"an open bracket that closes":  {Kind: api.TokenOpen, Text: ")"},
		"an open bracket with a space": {Kind: api.TokenOpen, Text: "( "},
		"a close bracket of nothing":   {Kind: api.TokenClose},
		"a close bracket that opens":   {Kind: api.TokenClose, Text: "("},
		"two close brackets":           {Kind: api.TokenClose, Text: "))"},
	} {
		for _, l := range [][]api.Token{{x}, {x, atom("a")}, {atom("a"), x}, {open, x, shut}} {
			if s, errno := lex.Write(l...); s != "" || errno != api.ErrForm {
				t.Errorf("Write with %s: %q, %d", name, s, errno)
			}
		}
	}
	for c := range 256 {
		s := string([]byte{byte(c)})
		if got, errno := lex.Write(atom(s)); (errno == api.OK) != atoms.MatchString(s) || errno == api.OK && got != s || errno != api.OK && errno != api.ErrForm {
			t.Errorf("Write of the atom %q: %q, %d", s, got, errno)
		}
	}
	if s, errno := lex.Write(slices.Repeat([]api.Token{atom("a")}, api.MaxTokens+1)...); s != "" || errno != api.ErrForm {
		t.Errorf("Write of one more than MaxTokens: %d bytes, %d", len(s), errno)
	}
}

// shares tells whether two texts have memory together.
func shares(a, b string) bool {
	if len(a) == 0 || len(b) == 0 {
		return false
	}
	x, y := uintptr(unsafe.Pointer(unsafe.StringData(a))), uintptr(unsafe.Pointer(unsafe.StringData(b)))
	return x < y+uintptr(len(b)) && y < x+uintptr(len(a))
}

// 28.3
func TestAnswersAreNewMemory(t *testing.T) {
	s := "a (\"b\" {1}\r\nc)\r\nrest"
	first, rest, _ := lex.Next(s)
	again, more, _ := lex.Next(s)
	if shares(first, s) || shares(rest, s) || shares(first, again) || shares(rest, more) || shares(first, rest) {
		t.Error("what Next tells shares its memory")
	}
	one, _ := lex.Tokens(first)
	two, _ := lex.Tokens(first)
	for i := range one {
		if shares(one[i].Text, first) || shares(one[i].Text, two[i].Text) {
			t.Errorf("a token shares its memory: %q", one[i].Text)
		}
	}
	one[0] = shut
	if two[0] != atom("a") {
		t.Error("the tokens share their list")
	}
	given := slices.Clone(two)
	for _, l := range [][]api.Token{two, {atom("a")}, {open}, {shut}, {text("b")}} {
		x, _ := lex.Write(l...)
		y, _ := lex.Write(l...)
		if shares(x, y) || shares(x, l[0].Text) {
			t.Errorf("what Write tells of %v shares its memory", l)
		}
	}
	if !slices.Equal(two, given) {
		t.Errorf("what was handed in is changed: %v", two)
	}
	x, _ := lex.Quote("")
	y, _ := lex.Quote("")
	if shares(x, y) {
		t.Error("what Quote tells shares its memory")
	}
}

// random tells tokens that are right.
func random(r *rand.Rand) []api.Token {
	const ofAtoms, ofTexts = "!~}az09*\\[]", "ab \"\\\t(){}~\r\n\x00\x7f\xff"
	var l []api.Token
	for range r.Intn(9) {
		b := make([]byte, r.Intn(5))
		switch kind := api.TokenKind(1 + r.Intn(4)); kind {
		case api.TokenAtom:
			for i := range b {
				b[i] = ofAtoms[r.Intn(len(ofAtoms))]
			}
			l = append(l, atom("a"+string(b)))
		case api.TokenString:
			most := len(ofTexts) - r.Intn(7) // many of them without what may not be quoted
			for i := range b {
				b[i] = ofTexts[r.Intn(most)]
			}
			l = append(l, text(string(b)))
		case api.TokenOpen:
			l = append(l, open)
		default:
			l = append(l, shut)
		}
	}
	return l
}

// 28.4
func TestThereAndBack(t *testing.T) {
	r := rand.New(rand.NewSource(28))
	for range 20000 {
		l := random(r)
		s, errno := lex.Write(l...)
		if errno != api.OK {
			t.Fatalf("Write(%v): %d", l, errno)
		}
		if back, errno := lex.Tokens(s); !slices.Equal(back, l) || errno != api.OK {
			t.Fatalf("%v is written as %q, and told as %v, %d", l, s, back, errno)
		}
		if text, rest, errno := lex.Next(s + "\r\n" + s); text != s || rest != s || errno != api.OK {
			t.Fatalf("%q is a command's text, but the next one is %q, %q, %d", s, text, rest, errno)
		}
	}
	l := slices.Repeat([]api.Token{text("a\n")}, api.MaxTokens)
	s, _ := lex.Write(l...)
	if back, errno := lex.Tokens(s); !slices.Equal(back, l) || errno != api.OK {
		t.Errorf("MaxTokens tokens are told as %d, %d", len(back), errno)
	}
}

// pieced puts lines, literals and other bytes together.
func pieced(r *rand.Rand) string {
	pieces := []string{"a", "b1", " ", " ", "(", ")", "\"", "\\", "{", "}", "{1}", "{2+}", "{3}\r\n", "{0}\n", "{1}\n", "+", "\r", "\n", "\r\n", "\xff", "0", "12", "\"x\"", "~"}
	var b strings.Builder
	for range r.Intn(12) {
		b.WriteString(pieces[r.Intn(len(pieces))])
	}
	return b.String()
}

// next tells a command just as the chapter words it, but for what is too long.
func next(s string) (string, string, bool) {
	for at := 0; ; {
		size := strings.Index(s[at:], "\n")
		if size < 0 {
			return "", "", false
		}
		line := strings.TrimSuffix(s[at:at+size], "\r")
		x := announces.FindStringSubmatch(line)
		if x == nil {
			return s[:at+len(line)], s[at+size+1:], true
		}
		many, _ := strconv.Atoi(x[1])
		if at += size + 1 + many; at > len(s) {
			return "", "", false
		}
	}
}

// tokens tells those of a text just as the chapter words it, but for what is too many.
func tokens(s string) ([]api.Token, bool) {
	var l []api.Token
	for ahead := ""; ; {
		left := strings.TrimLeft(s, " ")
		if left == "" {
			return l, true
		}
		var t api.Token
		var size int
		switch x := literals.FindStringSubmatch(left); {
		case left[0] == '(':
			t, size = open, 1
		case left[0] == ')':
			t, size = shut, 1
		case x != nil:
			many, _ := strconv.Atoi(x[1])
			size = len(x[0]) + many
			if size > len(left) {
				return nil, false
			}
			t = text(left[len(x[0]):size])
		case quotes.MatchString(left):
			size = len(quotes.FindString(left))
			t = text(regexp.MustCompile(`(?s)\\(.)`).ReplaceAllString(left[1:size-1], "$1"))
		case atoms.MatchString(left):
			size = len(atoms.FindString(left))
			t = atom(left[:size])
		default:
			return nil, false
		}
		touches := len(left) == len(s)
		if now := left[:1]; touches && ahead != "" && ahead != "(" && now != ")" && !(ahead == ")" && now == "(") {
			return nil, false
		}
		ahead = "x"
		if t == open || t == shut {
			ahead = t.Text
		}
		l, s = append(l, t), left[size:]
	}
}

// 28.1, 28.2, P1 to P4
func TestAnythingIsAnswered(t *testing.T) {
	ahead := runtime.NumGoroutine()
	r := rand.New(rand.NewSource(1))
	for range 200000 {
		s := pieced(r)
		first, rest, errno := lex.Next(s)
		want, left, whole := next(s)
		if first != want || rest != left || errno == api.OK != whole || !whole && errno != api.ErrShort {
			t.Fatalf("Next(%q) = %q, %q, %d", s, first, rest, errno)
		}
		l, errno := lex.Tokens(s)
		all, is := tokens(s)
		if !slices.Equal(l, all) || errno == api.OK != is || !is && errno != api.ErrCode {
			t.Fatalf("Tokens(%q) = %v, %d, not %v, %t", s, l, errno, all, is)
		}
		many, is := lex.Announced(s)
		x := announces.FindStringSubmatch(s)
		if is != (x != nil) || is && strconv.Itoa(many) != x[1] || !is && many != 0 {
			t.Fatalf("Announced(%q) = %d, %t", s, many, is)
		}
		if back, errno := lex.Write(all...); errno != api.OK {
			t.Fatalf("Write(%v) = %q, %d", all, back, errno)
		}
		lex.Quote(s)
	}
	if behind := runtime.NumGoroutine(); behind > ahead { // fewer, if that of an earlier test was just ending
		t.Errorf("%d goroutines ahead, %d behind", ahead, behind)
	}
}

// 28.5
func TestOneByOne(t *testing.T) {
	r := rand.New(rand.NewSource(2))
	long := []string{"", "\n", "\r\n", "{", "{9}\r\n", line(2*api.MaxLine, ""), "a {999999999}\r\n", strings.Repeat("{0}\n", 20), line(1<<18, "\n")}
	for range 20000 {
		s := pieced(r) + "\r\n"
		first, rest, errno := lex.Next(s)
		if errno != api.OK {
			continue
		}
		behind := pieced(r) + long[r.Intn(len(long))]
		again, more, errno := lex.Next(s + behind)
		if again != first || more != rest+behind || errno != api.OK {
			t.Fatalf("Next(%q) = %q, %q; with %.40q behind it %.40q, %.40q, %d", s, first, rest, behind, again, more, errno)
		}
	}
	left, all := "a NOOP\r\nb {2}\r\n\r\n\r\n\nc LOGOUT\n", []string{}
	for {
		first, rest, errno := lex.Next(left)
		if errno != api.OK {
			break
		}
		left, all = rest, append(all, first)
	}
	if left != "" || !slices.Equal(all, []string{"a NOOP", "b {2}\r\n\r\n", "", "c LOGOUT"}) {
		t.Errorf("the commands, one by one: %q, and then %q", all, left)
	}
}

// P1
func TestLongBytesAreAnswered(t *testing.T) {
	const many = 1 << 20
	for _, s := range []string{"(", "a ", "\"", "\\", "{", "}", "{1}", "{1}\n", "{0}\n", "{1}\na ", "\n", "\r", " ", "\"\\\"", "\x00", "{5}\r\n"} {
		s := strings.Repeat(s, many)
		lex.Next(s)
		lex.Tokens(s)
		lex.Announced(s)
		if quoted, errno := lex.Quote(s); errno == api.OK {
			if l, errno := lex.Tokens(quoted); len(l) != 1 || l[0] != text(s) || errno != api.OK {
				t.Errorf("%.20q .. is quoted, and told as %d tokens, %d", s, len(l), errno)
			}
		}
		written, _ := lex.Write(text(s))
		if l, errno := lex.Tokens(written); len(l) != 1 || l[0] != text(s) || errno != api.OK {
			t.Errorf("%.20q .. is written, and told as %d tokens, %d", s, len(l), errno)
		}
	}
}
